/-
  Rows of rows of whole numbers, and rows of truth values, in memory: what both sides' rounds are kept in.
-/
import Derived.Test.YtnadgoomkaldkaaDoorQSfW
import Derived.Test.YtnadgoomkaldkaaDoorQJ6
import Derived.Test.YtnadgoomkaldkaaDoorQSfU
import Derived.Test.YtnadgoomkaldkaaDoorQShF
import Derived.Laws.MakeOwn
import Derived.Laws.OwnMore
namespace Go.Proofs.YtnadgoomkaldkaaDoor
open Go.RowKit
attribute [local go_sem ↓] Go.wp_at_zero Go.wp_at_succ

abbrev ir (l : List Int) : List Value := l.map (Value.int .i64)
theorem ir_snoc (l : List Int) (d : Int) : ir l ++ [Value.int .i64 d] = ir (l ++ [d]) := by simp [ir]
theorem infoJ : (Tryd.prog.info? 3).map (fun i => (i.zero, i.size, i.bytes)) = some (some (.int .i64 0), 1, 8) := by kernel_rfl
theorem undI : Tryd.prog.underlying 37 = some (.slice 3) := by kernel_rfl
theorem wpList_ii {ops : Array Oper} {rest : List Oper} {o : Oper} {a : Act} {Q : Exit → Act → World → Prop} (W : World) (b0 : Nat) (v : Value) (l : List Int) (r : Int) (n B : Nat) (s x : Operand) (hgd : o.guard = none)
    (ho : o.op = .call { callee := .builtin .append, args := #[s, x], argTypes := #[37, 37] }) (hs : a.eval s = v) (hx : a.eval x = .slice (some ⟨B, 0, none⟩) 1 1) (hn : l.length = n) (hl : n ≤ 20000)
    (hO : W.ownsRow b0 3 1 v n (ir l)) (hN : At W B [.int .i64 r]) (hb : b0 ≤ W.heap.size)
    (h : ∀ g cap w', Hid (w'.ownsRow b0 3 1 (.slice (some ⟨g, 0, none⟩) (n + 1) cap) (n + 1) (ir (l ++ [r]))) → Hid (W.grownBy w' v.ownBlock) → Hid (v.ownBlock = some g ∨ g = W.heap.size) → wpList Tryd.prog ops Q rest (a.put o.dst (.slice (some ⟨g, 0, none⟩) (n + 1) cap)) w') : wpList Tryd.prog ops Q (o :: rest) a W := by
  have hml : 100000 ≤ maxLen := by decide
  obtain ⟨i0, hi, hz0, hz1, hz2⟩ := info_pt infoJ
  refine wpList_append_own_at _ hgd s x _ ho b0 _ i0 (.int .i64 0) 1 8 undI hi hz0 hz1 hz2 rfl (by decide) v n (ir l) hs hO ⟨B, 0, none⟩ 1 1 [.int .i64 r] hx rfl (news_at hN) (fun u hu => by simp at hu; subst hu; rfl) (by omega) (by omega) hb ?_
  intro v' w' hown hgrow _ hloc
  rw [ir_snoc] at hown
  obtain ⟨g, cap, rfl⟩ : ∃ g cap, v' = .slice (some ⟨g, 0, none⟩) (n + 1) cap := by
    obtain ⟨_, ⟨_, h0⟩ | ⟨g, cap, cur, hv, _⟩⟩ := hown
    · omega
    · exact ⟨g, cap, hv⟩
  refine h g cap w' hown hgrow ?_
  rcases hloc with e | e
  · exact .inl e.symm
  · exact .inr (Option.some.inj e)
theorem infoT : (Tryd.prog.info? 37).map (fun i => (i.zero, i.size, i.bytes)) = some (some (.slice none 0 0), 1, 24) := by kernel_rfl
theorem undT : Tryd.prog.underlying 34 = some (.slice 37) := by kernel_rfl
def vxx (vs : List Value) (j : Nat) : Value := vs.getD j (.slice none 0 0)
theorem vxx_get {vs : List Value} {j : Nat} (h : j < vs.length) : vs[j] = vxx vs j := by unfold vxx; simp [h]
theorem wpList_sx {ops : Array Oper} {rest : List Oper} {o : Oper} {a : Act} {Q : Exit → Act → World → Prop} (W : World) (b0 : Nat) (v : Value) (vs : List Value) (y : Value) (n B : Nat) (s x : Operand) (hgd : o.guard = none)
    (ho : o.op = .call { callee := .builtin .append, args := #[s, x], argTypes := #[34, 34] }) (hs : a.eval s = v) (hx : a.eval x = .slice (some ⟨B, 0, none⟩) 1 1) (hn : vs.length = n) (hl : n ≤ 20000) (hy : y.oneCell' = true)
    (hO : W.ownsRow b0 37 1 v n vs) (hN : At W B [y]) (hb : b0 ≤ W.heap.size)
    (h : ∀ g cap w', Hid (w'.ownsRow b0 37 1 (.slice (some ⟨g, 0, none⟩) (n + 1) cap) (n + 1) (vs ++ [y])) → Hid (W.grownBy w' v.ownBlock) → Hid (v.ownBlock = some g ∨ g = W.heap.size) → wpList Tryd.prog ops Q rest (a.put o.dst (.slice (some ⟨g, 0, none⟩) (n + 1) cap)) w') : wpList Tryd.prog ops Q (o :: rest) a W := by
  have hml : 100000 ≤ maxLen := by decide
  obtain ⟨i0, hi, hz0, hz1, hz2⟩ := info_pt infoT
  refine wpList_append_own_at _ hgd s x _ ho b0 _ i0 (.slice none 0 0) 1 24 undT hi hz0 hz1 hz2 rfl (by decide) v n vs hs hO ⟨B, 0, none⟩ 1 1 [y] hx rfl (news_at hN) (fun u hu => by simp at hu; subst hu; exact hy) (by omega) (by omega) hb ?_
  intro v' w' hown hgrow _ hloc
  obtain ⟨g, cap, rfl⟩ : ∃ g cap, v' = .slice (some ⟨g, 0, none⟩) (n + 1) cap := by
    obtain ⟨_, ⟨_, h0⟩ | ⟨g, cap, cur, hv, _⟩⟩ := hown
    · omega
    · exact ⟨g, cap, hv⟩
  refine h g cap w' hown hgrow ?_
  rcases hloc with e | e
  · exact .inl e.symm
  · exact .inr (Option.some.inj e)
/-- A row of rows. -/
structure RQ (W : World) (base : Nat) (v : Value) (vs : List Value) (Ls : List (List Int)) : Prop where
  o : W.ownsRow base 37 1 v vs.length vs
  n : vs.length = Ls.length
  i : ∀ j, j < vs.length → W.ownsRow base 3 1 (vxx vs j) (lI Ls j).length (ir (lI Ls j))
  d : ∀ j g, j < vs.length → (vxx vs j).ownBlock = some g → v.ownBlock ≠ some g
theorem RQ.nil (W : World) (base : Nat) : RQ W base (.slice none 0 0) [] [] := ⟨World.ownsRow_nil _ _ _ _, rfl, fun j hj => by simp at hj, fun j _ hj => by simp at hj⟩
section
variable {W w' : World} {base : Nat} {v : Value} {vs : List Value} {Ls : List (List Int)}
theorem RQ.below (h : RQ W base v vs Ls) (hB : Below W.heap.size W w') : RQ w' base v vs Ls := ⟨own_kp h.o hB, h.n, fun j hj => own_kp (h.i j hj) hB, h.d⟩
theorem RQ.set (h : RQ W base v vs Ls) {c : Nat} (hc : c < base) (o : Nat) (u : Value) : RQ (W.setCell ⟨c, o, none⟩ u) base v vs Ls := ⟨own_st h.o hc o u, h.n, fun j hj => own_st (h.i j hj) hc o u, h.d⟩
theorem own_kg {e size n : Nat} {u : Value} {xs : List Value} {row : Option Nat} (h : W.ownsRow base e size u n xs) (hg : W.grownBy w' row) (hd : ∀ g, u.ownBlock = some g → row ≠ some g) : w'.ownsRow base e size u n xs := by
  cases hb : u.ownBlock with
  | none => exact h.kept hg (.inl hb)
  | some g => exact h.kept hg (.inr (by rw [hb]; exact fun e2 => hd g hb e2.symm))
theorem RQ.grw {row : Option Nat} (h : RQ W base v vs Ls) (hg : W.grownBy w' row) (h1 : ∀ g, v.ownBlock = some g → row ≠ some g) (h2 : ∀ j g, j < vs.length → (vxx vs j).ownBlock = some g → row ≠ some g) : RQ w' base v vs Ls :=
  ⟨own_kg h.o hg h1, h.n, fun j hj => own_kg (h.i j hj) hg (h2 j · hj), h.d⟩
theorem vxx_app {x : Value} {j : Nat} (hj : j < vs.length) : vxx (vs ++ [x]) j = vxx vs j := by unfold vxx; simp [List.getElem?_append_left hj]
theorem vxx_new {x : Value} : vxx (vs ++ [x]) vs.length = x := by unfold vxx; simp
theorem RQ.more {v' x : Value} {L : List Int} {g : Nat} (h : RQ W base v vs Ls) (hx0 : W.ownsRow base 3 1 x L.length (ir L)) (hxd : ∀ g, x.ownBlock = some g → v.ownBlock ≠ some g) (hown : w'.ownsRow base 37 1 v' (vs.length + 1) (vs ++ [x])) (hg : W.grownBy w' v.ownBlock) (hv : v'.ownBlock = some g) (hat : v.ownBlock = some g ∨ W.heap.size ≤ g) : RQ w' base v' (vs ++ [x]) (Ls ++ [L]) := by
  have hl : (vs ++ [x]).length = vs.length + 1 := by simp
  have hy : ∀ j, j < vs.length → lI (Ls ++ [L]) j = lI Ls j := fun j hj => by unfold lI; rw [h.n] at hj; simp [List.getElem?_append_left hj]
  have hy2 : lI (Ls ++ [L]) vs.length = L := by unfold lI; rw [h.n]; simp
  have ne : ∀ {u : Value} {M : List Int} {z : Nat}, W.ownsRow base 3 1 u M.length (ir M) → (∀ g, u.ownBlock = some g → v.ownBlock ≠ some g) → u.ownBlock = some z → v'.ownBlock ≠ some z := fun {u M z} ho hd hb e => by
    rw [hv] at e
    obtain rfl := Option.some.inj e
    rcases hat with c | c
    · exact hd g hb c
    · have := (ho.lt g hb).2; omega
  refine ⟨by rw [hl]; exact hown, by simp [h.n], fun j hj => ?_, fun j z hj hb => ?_⟩
  · rw [hl] at hj
    by_cases e : j = vs.length
    · rw [e, vxx_new, hy2]; exact own_kg hx0 hg hxd
    · rw [vxx_app (by omega), hy j (by omega)]; exact own_kg (h.i j (by omega)) hg (h.d j · (by omega))
  · rw [hl] at hj
    by_cases e : j = vs.length
    · rw [e, vxx_new] at hb; exact ne hx0 hxd hb
    · rw [vxx_app (by omega)] at hb; exact ne (h.i j (by omega)) (h.d j · (by omega)) hb
theorem RQ.cell {gO cap j : Nat} (h : RQ W base v vs Ls) (hv : v = .slice (some ⟨gO, 0, none⟩) vs.length cap) (hj : j < vs.length) : W.cell? ⟨gO, j, none⟩ = some (vxx vs j) := by
  have ho := h.o
  rw [hv] at ho
  obtain ⟨h1, h2 | ⟨g', cap', cur, hv', hb, hg, hc, hm, hs, ht⟩⟩ := ho
  · obtain ⟨hv', _⟩ := h2; cases hv'
  · simp only [Value.slice.injEq, Option.some.injEq, Addr.mk.injEq, and_true] at hv'
    obtain ⟨rfl, _, rfl⟩ := hv'
    have e : cur.toList[j]? = some vs[j] := by
      have : (cur.toList.take (vs.length * 1))[j]? = vs[j]? := by rw [ht]
      rw [List.getElem?_take, if_pos (by omega), List.getElem?_eq_getElem hj] at this
      exact this
    rw [← vxx_get hj]
    simp [World.cell?, hg]; simpa using e
theorem own_isli {n : Nat} {l : List Int} {u : Value} (h : W.ownsRow base 3 1 u n (ir l)) : ∃ ad b cap, u = .slice ad l.length cap ∧ ISl W ad b 0 cap l := by
  have hn : n = l.length := by have := h.1; simp [ir] at this; omega
  subst hn
  have hlt := h.lt
  obtain ⟨h1, h | ⟨g, cap, cur, hv, hb, hg, hc, hm, hs, ht⟩⟩ := h
  · obtain ⟨rfl, h0⟩ := h
    have : l = [] := List.eq_nil_of_length_eq_zero h0
    subst this
    exact ⟨none, 0, 0, rfl, ⟨.inr rfl, fun k hk => by simp at hk⟩⟩
  · refine ⟨_, g, cap, hv, ISl.mk' ?_ ?_⟩
    · intro i hi
      have e : cur.toList[i]? = some (.int .i64 l[i]) := by
        have : (cur.toList.take (l.length * 1))[i]? = (ir l)[i]? := by rw [ht]
        rw [List.getElem?_take] at this
        rw [if_pos (by omega)] at this
        rw [this]
        simp [ir, hi]
      simp [World.cell?, hg]
      simpa using e
    · exact (hlt g (by rw [hv]; rfl)).2
theorem tindex (b n cap k : Nat) (hk : k < n) (w : World) : (Instr.indexAt 34 (.slice (some ⟨b, 0, none⟩) n cap) (.int .i64 k)).run Tryd.prog w = .ok (.pointer (some ⟨b, 0 + k, none⟩)) w := by
  have hu : Tryd.prog.underlying 34 = some (.slice (Tryd.prog.elem 34)) := by kernel_rfl
  refine (run_indexAt_slice (P := Tryd.prog) (w := w) 34 ⟨b, 0, none⟩ n cap .i64 (k : Int) hu).trans ?_
  rw [if_pos ⟨by omega, by omega⟩]
  have hs : (sizeOf (Tryd.prog.elem 34)).run Tryd.prog w = .ok 1 w := by kernel_rfl
  rw [hs]
  simp [Addr.add]
  try (intro h; omega)
/-- What a call owns can be read. -/
theorem RQ.lis (h : RQ W base v vs Ls) : ∃ ad b cap, v = .slice ad Ls.length cap ∧ LIs W ad b 0 cap Ls := by
  have hlt := h.o.lt
  have hn := h.n
  obtain ⟨h1, ⟨hv, h0⟩ | ⟨g, cap, cur, hv, hb, hg, hc, hm, hs, ht⟩⟩ := h.o
  · refine ⟨none, 0, 0, by rw [hv, ← hn, h0], ⟨fun i hi => by omega, fun k hk => by omega⟩⟩
  · refine ⟨some ⟨g, 0, none⟩, g, cap, by rw [hv, hn], ⟨fun i hi => ?_, fun k hk w => tindex g _ cap k hk w⟩⟩
    have hi2 : i < vs.length := by omega
    obtain ⟨ad, b', cap', e1, e2⟩ := own_isli (h.i i hi2)
    refine ⟨⟨ad, b', 0, cap', ?_, e2⟩, (hlt g (by rw [hv]; rfl)).2⟩
    rw [Nat.zero_add, h.cell hv hi2, e1]
end
abbrev br (l : List Bool) : List Value := l.map Value.bool
def glb (l : List Bool) (i : Nat) : Bool := l.getD i true
theorem glb_get {l : List Bool} {i : Nat} (h : i < l.length) : l[i] = glb l i := by unfold glb; simp [h]
theorem infoB : (Tryd.prog.info? 4).map (fun i => (i.zero, i.size, i.bytes)) = some (some (.bool false), 1, 1) := by kernel_rfl
theorem undB : Tryd.prog.underlying 64 = some (.slice 4) := by kernel_rfl
theorem made_runB (K : Nat) (hK : K ≤ 20000) : ∃ CS : Array Value, CS.toList = br (List.replicate K false) ∧ ∀ w, (Instr.makeSlice 64 (.int .i64 (K : Int)) (.int .i64 (K : Int))).run Tryd.prog w = .ok (.slice (some ⟨w.heap.size, 0, none⟩) K K) (w.alloc (.cells CS 4)) := by
  have hml : 30000 ≤ maxLen := by decide
  obtain ⟨i0, hi, hz0, hz1, hz2⟩ := info_pt infoB
  refine ⟨madeCells #[Value.bool false] K, by rw [toList_madeCells_one]; simp [br], fun w => ?_⟩
  have := run_makeSlice (P := Tryd.prog) w 64 4 i0 (.bool false) undB hi hz0 .i64 .i64 (K : Int) (K : Int) (by omega) (Int.le_refl _) (by rw [hz1]; omega) (by rw [hz2]; omega) (by omega)
  rw [hz1, Int.toNat_natCast, Nat.mul_one] at this
  exact this
theorem bindex (b n cap k : Nat) (hk : k < n) (w : World) : (Instr.indexAt 64 (.slice (some ⟨b, 0, none⟩) n cap) (.int .i64 k)).run Tryd.prog w = .ok (.pointer (some ⟨b, k, none⟩)) w := by
  have hu : Tryd.prog.underlying 64 = some (.slice (Tryd.prog.elem 64)) := by kernel_rfl
  refine (run_indexAt_slice (P := Tryd.prog) (w := w) 64 ⟨b, 0, none⟩ n cap .i64 (k : Int) hu).trans ?_
  rw [if_pos ⟨by omega, by omega⟩]
  have hs : (sizeOf (Tryd.prog.elem 64)).run Tryd.prog w = .ok 1 w := by kernel_rfl
  rw [hs]
  simp [Addr.add]
  intro h; omega
theorem At.getb {W : World} {B : Nat} {L : List Bool} (h : At W B (br L)) {j : Nat} (hj : j < L.length) : W.cell? ⟨B, j, none⟩ = some (.bool (glb L j)) ∧ W.frozen? ⟨B, j, none⟩ = false := by
  have := h.1 j (by simpa [br] using hj)
  rw [← glb_get hj]
  simpa [br] using this
theorem br_set (L : List Bool) (i : Nat) (x : Bool) : (br L).set i (.bool x) = br (L.set i x) := by simp [br]
theorem At.newArr (W : World) (cs : Array Value) (t : Nat) : At (W.alloc (.cells cs t)) W.heap.size cs.toList := by
  have := At.newRow W cs.toList t
  simpa using this
/-- What lies in memory while rounds are gone: what is seen, the rounds so far, and the one that is under way. -/
structure RS (w W : World) (SB base : Nat) (t : List Bool) (vO : Value) (vs : List Value) (Lo : List (List Int)) (vR : Value) (R : List Int) : Prop where
  sb : At W SB (br t)
  q : RQ W base vO vs Lo
  r : W.ownsRow base 3 1 vR R.length (ir R)
  d1 : ∀ g, vO.ownBlock = some g → vR.ownBlock ≠ some g
  d2 : ∀ j g, j < vs.length → (vxx vs j).ownBlock = some g → vR.ownBlock ≠ some g
  g : Gr w W
  b : (w.heap.size ≤ SB ∧ SB < base) ∧ base ≤ W.heap.size
section
variable {w W w' : World} {SB base : Nat} {t : List Bool} {vO : Value} {vs : List Value} {Lo : List (List Int)} {vR : Value} {R : List Int}
theorem RS.below (h : RS w W SB base t vO vs Lo vR R) (hB : Below W.heap.size W w') : RS w w' SB base t vO vs Lo vR R :=
  ⟨At.below hB h.sb, h.q.below hB, own_kp h.r hB, h.d1, h.d2, Gr.step h.g hB, h.b.1, Nat.le_trans h.b.2 hB.size⟩
theorem RS.set (h : RS w W SB base t vO vs Lo vR R) (i : Nat) : RS w (W.setCell ⟨SB, i, none⟩ (.bool true)) SB base (t.set i true) vO vs Lo vR R :=
  ⟨by rw [← br_set]; exact h.sb.put i _, h.q.set h.b.1.2 _ _, own_st h.r h.b.1.2 _ _, h.d1, h.d2, h.g.set h.b.1.1 _ _, h.b.1, by simpa using h.b.2⟩
theorem RS.fresh (h : RS w W SB base t vO vs Lo vR R) : RS w W SB base t vO vs Lo (.slice none 0 0) [] :=
  ⟨h.sb, h.q, World.ownsRow_nil _ _ _ _, fun g _ e => by simp [Value.ownBlock] at e, fun j g _ _ e => by simp [Value.ownBlock] at e, h.g, h.b⟩
theorem RS.app {g cap n : Nat} {x : Int} (h : RS w W SB base t vO vs Lo vR R) (hn : R.length = n) (hr : w'.ownsRow base 3 1 (.slice (some ⟨g, 0, none⟩) (n + 1) cap) (n + 1) (ir (R ++ [x]))) (hg : W.grownBy w' vR.ownBlock) (hat : vR.ownBlock = some g ∨ g = W.heap.size) : RS w w' SB base t vO vs Lo (.slice (some ⟨g, 0, none⟩) (n + 1) cap) (R ++ [x]) := by
  have hlt := h.r.lt
  have ob : (Value.slice (some ⟨g, 0, none⟩) (n + 1) cap).ownBlock = some g := rfl
  have hs := hg.size
  have ne : ∀ {u : Value} {e n : Nat} {xs : List Value} {z : Nat}, W.ownsRow base e 1 u n xs → (∀ g, u.ownBlock = some g → vR.ownBlock ≠ some g) → u.ownBlock = some z → (Value.slice (some ⟨g, 0, none⟩) (R.length + 1) cap).ownBlock ≠ some z := fun {u e n xs z} ho hd hb k => by
    obtain rfl := Option.some.inj (show some g = some z from k)
    rcases hat with c | c
    · exact hd g hb c
    · have := (ho.lt g hb).2; omega
  subst hn
  refine ⟨At.grw h.sb hg (fun e => by have := (hlt SB e).1; have := h.b.1.2; omega), h.q.grw hg h.d1 h.d2, by simpa using hr, fun z hz => ne h.q.o h.d1 hz, fun j z hj hz => ne (h.q.i j hj) (h.d2 j · hj) hz, Below.grown h.g.out hg h.g.out.size (fun k hk => by have := (hlt k hk).1; have := h.b.1; omega), h.b.1, by have := h.b.2; omega⟩
theorem RS.push {g cap n : Nat} (h : RS w W SB base t vO vs Lo vR R) (hn : vs.length = n) (hr : w'.ownsRow base 37 1 (.slice (some ⟨g, 0, none⟩) (n + 1) cap) (n + 1) (vs ++ [vR])) (hg : W.grownBy w' vO.ownBlock) (hat : vO.ownBlock = some g ∨ g = W.heap.size) : RS w w' SB base t (.slice (some ⟨g, 0, none⟩) (n + 1) cap) (vs ++ [vR]) (Lo ++ [R]) (.slice none 0 0) [] := by
  have hlt := h.q.o.lt
  have hs := hg.size
  subst hn
  refine ⟨At.grw h.sb hg (fun e => by have := (hlt SB e).1; have := h.b.1.2; omega), h.q.more (g := g) h.r (fun z hz e => h.d1 z e hz) hr hg rfl (hat.imp id (fun e => by omega)), World.ownsRow_nil _ _ _ _, fun g _ e => by simp [Value.ownBlock] at e, fun j g _ _ e => by simp [Value.ownBlock] at e, Below.grown h.g.out hg h.g.out.size (fun k hk => by have := (hlt k hk).1; have := h.b.1; omega), h.b.1, by have := h.b.2; omega⟩
end
end Go.Proofs.YtnadgoomkaldkaaDoor
