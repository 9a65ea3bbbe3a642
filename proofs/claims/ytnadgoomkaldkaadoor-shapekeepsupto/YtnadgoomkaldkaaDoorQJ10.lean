/-
  Rows of rows of whole numbers, and rows of truth values, in memory: what both sides' rounds are kept in.; shape.net.rounds.; mercatorref5.RoundsOf.; shape.Faces.
-/
import Derived.Test.YtnadgoomkaldkaaDoorQSfW
import Derived.Test.YtnadgoomkaldkaaDoorQSfJ
import Derived.Test.YtnadgoomkaldkaaDoorQSfU
import Derived.Test.YtnadgoomkaldkaaDoorQJ3
import Derived.Laws.MakeOwn
import Derived.Laws.OwnMore
namespace Go.Proofs.YtnadgoomkaldkaaDoor
open Go.RowKit
attribute [local go_sem ↓] Go.wp_at_zero Go.wp_at_succ

abbrev ir (l : List Int) : List Value := l.map (Value.int .i64)
theorem ir_snoc (l : List Int) (d : Int) : ir l ++ [Value.int .i64 d] = ir (l ++ [d]) := by simp [ir]
theorem infoJ : (Tryd.prog.info? 3).map (fun i => (i.zero, i.size, i.bytes)) = some (some (.int .i64 0), 1, 8) := by kernel_rfl
theorem undI : Tryd.prog.underlying 37 = some (.slice 3) := by kernel_rfl
theorem wpList_ii {ops : Array Oper} {rest : List Oper} {o : Oper} {a : Act} {Q : Exit → Act → World → Prop} (W : World) (b0 : Nat) (v : Value) (l : List Int) (r : Int) (n B : Nat) (s x : Operand) (hgd : o.guard = none)
    (ho : o.op = .call { callee := .builtin .append, args := #[s, x], argTypes := #[37, 37] }) (hs : a.eval s = v) (hx : a.eval x = .slice (some ⟨B, 0, none⟩) 1 1) (hn : l.length = n) (hl : n ≤ 20000)
    (hO : W.ownsRow b0 3 1 v n (ir l)) (hN : At W B [.int .i64 r]) (hb : b0 ≤ W.heap.size)
    (h : ∀ g cap w', Hid (w'.ownsRow b0 3 1 (.slice (some ⟨g, 0, none⟩) (n + 1) cap) (n + 1) (ir (l ++ [r]))) → Hid (W.grownBy w' v.ownBlock) → Hid (v.ownBlock = some g ∨ g = W.heap.size) → wpList Tryd.prog ops Q rest (a.put o.dst (.slice (some ⟨g, 0, none⟩) (n + 1) cap)) w') : wpList Tryd.prog ops Q (o :: rest) a W := by
  have hml : 100000 ≤ maxLen := by decide
  obtain ⟨i0, hi, hz0, hz1, hz2⟩ := info_pt infoJ
  refine wpList_append_own_at _ hgd s x _ ho b0 _ i0 (.int .i64 0) 1 8 undI hi hz0 hz1 hz2 rfl (by decide) v n (ir l) hs hO ⟨B, 0, none⟩ 1 1 [.int .i64 r] hx rfl (news_at hN) (fun u hu => by simp at hu; subst hu; rfl) (by omega) (by omega) hb ?_
  intro v' w' hown hgrow _ hloc
  rw [ir_snoc] at hown
  obtain ⟨g, cap, rfl⟩ : ∃ g cap, v' = .slice (some ⟨g, 0, none⟩) (n + 1) cap := by
    obtain ⟨_, ⟨_, h0⟩ | ⟨g, cap, cur, hv, _⟩⟩ := hown
    · omega
    · exact ⟨g, cap, hv⟩
  refine h g cap w' hown hgrow ?_
  rcases hloc with e | e
  · exact .inl e.symm
  · exact .inr (Option.some.inj e)
theorem infoT : (Tryd.prog.info? 37).map (fun i => (i.zero, i.size, i.bytes)) = some (some (.slice none 0 0), 1, 24) := by kernel_rfl
theorem undT : Tryd.prog.underlying 34 = some (.slice 37) := by kernel_rfl
def vxx (vs : List Value) (j : Nat) : Value := vs.getD j (.slice none 0 0)
theorem vxx_get {vs : List Value} {j : Nat} (h : j < vs.length) : vs[j] = vxx vs j := by unfold vxx; simp [h]
theorem wpList_sx {ops : Array Oper} {rest : List Oper} {o : Oper} {a : Act} {Q : Exit → Act → World → Prop} (W : World) (b0 : Nat) (v : Value) (vs : List Value) (y : Value) (n B : Nat) (s x : Operand) (hgd : o.guard = none)
    (ho : o.op = .call { callee := .builtin .append, args := #[s, x], argTypes := #[34, 34] }) (hs : a.eval s = v) (hx : a.eval x = .slice (some ⟨B, 0, none⟩) 1 1) (hn : vs.length = n) (hl : n ≤ 20000) (hy : y.oneCell' = true)
    (hO : W.ownsRow b0 37 1 v n vs) (hN : At W B [y]) (hb : b0 ≤ W.heap.size)
    (h : ∀ g cap w', Hid (w'.ownsRow b0 37 1 (.slice (some ⟨g, 0, none⟩) (n + 1) cap) (n + 1) (vs ++ [y])) → Hid (W.grownBy w' v.ownBlock) → Hid (v.ownBlock = some g ∨ g = W.heap.size) → wpList Tryd.prog ops Q rest (a.put o.dst (.slice (some ⟨g, 0, none⟩) (n + 1) cap)) w') : wpList Tryd.prog ops Q (o :: rest) a W := by
  have hml : 100000 ≤ maxLen := by decide
  obtain ⟨i0, hi, hz0, hz1, hz2⟩ := info_pt infoT
  refine wpList_append_own_at _ hgd s x _ ho b0 _ i0 (.slice none 0 0) 1 24 undT hi hz0 hz1 hz2 rfl (by decide) v n vs hs hO ⟨B, 0, none⟩ 1 1 [y] hx rfl (news_at hN) (fun u hu => by simp at hu; subst hu; exact hy) (by omega) (by omega) hb ?_
  intro v' w' hown hgrow _ hloc
  obtain ⟨g, cap, rfl⟩ : ∃ g cap, v' = .slice (some ⟨g, 0, none⟩) (n + 1) cap := by
    obtain ⟨_, ⟨_, h0⟩ | ⟨g, cap, cur, hv, _⟩⟩ := hown
    · omega
    · exact ⟨g, cap, hv⟩
  refine h g cap w' hown hgrow ?_
  rcases hloc with e | e
  · exact .inl e.symm
  · exact .inr (Option.some.inj e)
/-- A row of rows. -/
structure RQ (W : World) (base : Nat) (v : Value) (vs : List Value) (Ls : List (List Int)) : Prop where
  o : W.ownsRow base 37 1 v vs.length vs
  n : vs.length = Ls.length
  i : ∀ j, j < vs.length → W.ownsRow base 3 1 (vxx vs j) (lI Ls j).length (ir (lI Ls j))
  d : ∀ j g, j < vs.length → (vxx vs j).ownBlock = some g → v.ownBlock ≠ some g
theorem RQ.nil (W : World) (base : Nat) : RQ W base (.slice none 0 0) [] [] := ⟨World.ownsRow_nil _ _ _ _, rfl, fun j hj => by simp at hj, fun j _ hj => by simp at hj⟩
section
variable {W w' : World} {base : Nat} {v : Value} {vs : List Value} {Ls : List (List Int)}
theorem RQ.below (h : RQ W base v vs Ls) (hB : Below W.heap.size W w') : RQ w' base v vs Ls := ⟨own_kp h.o hB, h.n, fun j hj => own_kp (h.i j hj) hB, h.d⟩
theorem RQ.set (h : RQ W base v vs Ls) {c : Nat} (hc : c < base) (o : Nat) (u : Value) : RQ (W.setCell ⟨c, o, none⟩ u) base v vs Ls := ⟨own_st h.o hc o u, h.n, fun j hj => own_st (h.i j hj) hc o u, h.d⟩
theorem own_kg {e size n : Nat} {u : Value} {xs : List Value} {row : Option Nat} (h : W.ownsRow base e size u n xs) (hg : W.grownBy w' row) (hd : ∀ g, u.ownBlock = some g → row ≠ some g) : w'.ownsRow base e size u n xs := by
  cases hb : u.ownBlock with
  | none => exact h.kept hg (.inl hb)
  | some g => exact h.kept hg (.inr (by rw [hb]; exact fun e2 => hd g hb e2.symm))
theorem RQ.grw {row : Option Nat} (h : RQ W base v vs Ls) (hg : W.grownBy w' row) (h1 : ∀ g, v.ownBlock = some g → row ≠ some g) (h2 : ∀ j g, j < vs.length → (vxx vs j).ownBlock = some g → row ≠ some g) : RQ w' base v vs Ls :=
  ⟨own_kg h.o hg h1, h.n, fun j hj => own_kg (h.i j hj) hg (h2 j · hj), h.d⟩
theorem vxx_app {x : Value} {j : Nat} (hj : j < vs.length) : vxx (vs ++ [x]) j = vxx vs j := by unfold vxx; simp [List.getElem?_append_left hj]
theorem vxx_new {x : Value} : vxx (vs ++ [x]) vs.length = x := by unfold vxx; simp
theorem RQ.more {v' x : Value} {L : List Int} {g : Nat} (h : RQ W base v vs Ls) (hx0 : W.ownsRow base 3 1 x L.length (ir L)) (hxd : ∀ g, x.ownBlock = some g → v.ownBlock ≠ some g) (hown : w'.ownsRow base 37 1 v' (vs.length + 1) (vs ++ [x])) (hg : W.grownBy w' v.ownBlock) (hv : v'.ownBlock = some g) (hat : v.ownBlock = some g ∨ W.heap.size ≤ g) : RQ w' base v' (vs ++ [x]) (Ls ++ [L]) := by
  have hl : (vs ++ [x]).length = vs.length + 1 := by simp
  have hy : ∀ j, j < vs.length → lI (Ls ++ [L]) j = lI Ls j := fun j hj => by unfold lI; rw [h.n] at hj; simp [List.getElem?_append_left hj]
  have hy2 : lI (Ls ++ [L]) vs.length = L := by unfold lI; rw [h.n]; simp
  have ne : ∀ {u : Value} {M : List Int} {z : Nat}, W.ownsRow base 3 1 u M.length (ir M) → (∀ g, u.ownBlock = some g → v.ownBlock ≠ some g) → u.ownBlock = some z → v'.ownBlock ≠ some z := fun {u M z} ho hd hb e => by
    rw [hv] at e
    obtain rfl := Option.some.inj e
    rcases hat with c | c
    · exact hd g hb c
    · have := (ho.lt g hb).2; omega
  refine ⟨by rw [hl]; exact hown, by simp [h.n], fun j hj => ?_, fun j z hj hb => ?_⟩
  · rw [hl] at hj
    by_cases e : j = vs.length
    · rw [e, vxx_new, hy2]; exact own_kg hx0 hg hxd
    · rw [vxx_app (by omega), hy j (by omega)]; exact own_kg (h.i j (by omega)) hg (h.d j · (by omega))
  · rw [hl] at hj
    by_cases e : j = vs.length
    · rw [e, vxx_new] at hb; exact ne hx0 hxd hb
    · rw [vxx_app (by omega)] at hb; exact ne (h.i j (by omega)) (h.d j · (by omega)) hb
theorem RQ.cell {gO cap j : Nat} (h : RQ W base v vs Ls) (hv : v = .slice (some ⟨gO, 0, none⟩) vs.length cap) (hj : j < vs.length) : W.cell? ⟨gO, j, none⟩ = some (vxx vs j) := by
  have ho := h.o
  rw [hv] at ho
  obtain ⟨h1, h2 | ⟨g', cap', cur, hv', hb, hg, hc, hm, hs, ht⟩⟩ := ho
  · obtain ⟨hv', _⟩ := h2; cases hv'
  · simp only [Value.slice.injEq, Option.some.injEq, Addr.mk.injEq, and_true] at hv'
    obtain ⟨rfl, _, rfl⟩ := hv'
    have e : cur.toList[j]? = some vs[j] := by
      have : (cur.toList.take (vs.length * 1))[j]? = vs[j]? := by rw [ht]
      rw [List.getElem?_take, if_pos (by omega), List.getElem?_eq_getElem hj] at this
      exact this
    rw [← vxx_get hj]
    simp [World.cell?, hg]; simpa using e
theorem own_isli {n : Nat} {l : List Int} {u : Value} (h : W.ownsRow base 3 1 u n (ir l)) : ∃ ad b cap, u = .slice ad l.length cap ∧ ISl W ad b 0 cap l := by
  have hn : n = l.length := by have := h.1; simp [ir] at this; omega
  subst hn
  have hlt := h.lt
  obtain ⟨h1, h | ⟨g, cap, cur, hv, hb, hg, hc, hm, hs, ht⟩⟩ := h
  · obtain ⟨rfl, h0⟩ := h
    have : l = [] := List.eq_nil_of_length_eq_zero h0
    subst this
    exact ⟨none, 0, 0, rfl, ⟨.inr rfl, fun k hk => by simp at hk⟩⟩
  · refine ⟨_, g, cap, hv, ISl.mk' ?_ ?_⟩
    · intro i hi
      have e : cur.toList[i]? = some (.int .i64 l[i]) := by
        have : (cur.toList.take (l.length * 1))[i]? = (ir l)[i]? := by rw [ht]
        rw [List.getElem?_take] at this
        rw [if_pos (by omega)] at this
        rw [this]
        simp [ir, hi]
      simp [World.cell?, hg]
      simpa using e
    · exact (hlt g (by rw [hv]; rfl)).2
theorem tindex (b n cap k : Nat) (hk : k < n) (w : World) : (Instr.indexAt 34 (.slice (some ⟨b, 0, none⟩) n cap) (.int .i64 k)).run Tryd.prog w = .ok (.pointer (some ⟨b, 0 + k, none⟩)) w := by
  have hu : Tryd.prog.underlying 34 = some (.slice (Tryd.prog.elem 34)) := by kernel_rfl
  refine (run_indexAt_slice (P := Tryd.prog) (w := w) 34 ⟨b, 0, none⟩ n cap .i64 (k : Int) hu).trans ?_
  rw [if_pos ⟨by omega, by omega⟩]
  have hs : (sizeOf (Tryd.prog.elem 34)).run Tryd.prog w = .ok 1 w := by kernel_rfl
  rw [hs]
  simp [Addr.add]
  try (intro h; omega)
/-- What a call owns can be read. -/
theorem RQ.lis (h : RQ W base v vs Ls) : ∃ ad b cap, v = .slice ad Ls.length cap ∧ LIs W ad b 0 cap Ls := by
  have hlt := h.o.lt
  have hn := h.n
  obtain ⟨h1, ⟨hv, h0⟩ | ⟨g, cap, cur, hv, hb, hg, hc, hm, hs, ht⟩⟩ := h.o
  · refine ⟨none, 0, 0, by rw [hv, ← hn, h0], ⟨fun i hi => by omega, fun k hk => by omega⟩⟩
  · refine ⟨some ⟨g, 0, none⟩, g, cap, by rw [hv, hn], ⟨fun i hi => ?_, fun k hk w => tindex g _ cap k hk w⟩⟩
    have hi2 : i < vs.length := by omega
    obtain ⟨ad, b', cap', e1, e2⟩ := own_isli (h.i i hi2)
    refine ⟨⟨ad, b', 0, cap', ?_, e2⟩, (hlt g (by rw [hv]; rfl)).2⟩
    rw [Nat.zero_add, h.cell hv hi2, e1]
end
abbrev br (l : List Bool) : List Value := l.map Value.bool
def glb (l : List Bool) (i : Nat) : Bool := l.getD i true
theorem glb_get {l : List Bool} {i : Nat} (h : i < l.length) : l[i] = glb l i := by unfold glb; simp [h]
theorem infoB : (Tryd.prog.info? 4).map (fun i => (i.zero, i.size, i.bytes)) = some (some (.bool false), 1, 1) := by kernel_rfl
theorem undB : Tryd.prog.underlying 64 = some (.slice 4) := by kernel_rfl
theorem made_runB (K : Nat) (hK : K ≤ 20000) : ∃ CS : Array Value, CS.toList = br (List.replicate K false) ∧ ∀ w, (Instr.makeSlice 64 (.int .i64 (K : Int)) (.int .i64 (K : Int))).run Tryd.prog w = .ok (.slice (some ⟨w.heap.size, 0, none⟩) K K) (w.alloc (.cells CS 4)) := by
  have hml : 30000 ≤ maxLen := by decide
  obtain ⟨i0, hi, hz0, hz1, hz2⟩ := info_pt infoB
  refine ⟨madeCells #[Value.bool false] K, by rw [toList_madeCells_one]; simp [br], fun w => ?_⟩
  have := run_makeSlice (P := Tryd.prog) w 64 4 i0 (.bool false) undB hi hz0 .i64 .i64 (K : Int) (K : Int) (by omega) (Int.le_refl _) (by rw [hz1]; omega) (by rw [hz2]; omega) (by omega)
  rw [hz1, Int.toNat_natCast, Nat.mul_one] at this
  exact this
theorem bindex (b n cap k : Nat) (hk : k < n) (w : World) : (Instr.indexAt 64 (.slice (some ⟨b, 0, none⟩) n cap) (.int .i64 k)).run Tryd.prog w = .ok (.pointer (some ⟨b, k, none⟩)) w := by
  have hu : Tryd.prog.underlying 64 = some (.slice (Tryd.prog.elem 64)) := by kernel_rfl
  refine (run_indexAt_slice (P := Tryd.prog) (w := w) 64 ⟨b, 0, none⟩ n cap .i64 (k : Int) hu).trans ?_
  rw [if_pos ⟨by omega, by omega⟩]
  have hs : (sizeOf (Tryd.prog.elem 64)).run Tryd.prog w = .ok 1 w := by kernel_rfl
  rw [hs]
  simp [Addr.add]
  intro h; omega
theorem At.getb {W : World} {B : Nat} {L : List Bool} (h : At W B (br L)) {j : Nat} (hj : j < L.length) : W.cell? ⟨B, j, none⟩ = some (.bool (glb L j)) ∧ W.frozen? ⟨B, j, none⟩ = false := by
  have := h.1 j (by simpa [br] using hj)
  rw [← glb_get hj]
  simpa [br] using this
theorem br_set (L : List Bool) (i : Nat) (x : Bool) : (br L).set i (.bool x) = br (L.set i x) := by simp [br]
theorem At.newArr (W : World) (cs : Array Value) (t : Nat) : At (W.alloc (.cells cs t)) W.heap.size cs.toList := by
  have := At.newRow W cs.toList t
  simpa using this
/-- What lies in memory while rounds are gone: what is seen, the rounds so far, and the one that is under way. -/
structure RS (w W : World) (SB base : Nat) (t : List Bool) (vO : Value) (vs : List Value) (Lo : List (List Int)) (vR : Value) (R : List Int) : Prop where
  sb : At W SB (br t)
  q : RQ W base vO vs Lo
  r : W.ownsRow base 3 1 vR R.length (ir R)
  d1 : ∀ g, vO.ownBlock = some g → vR.ownBlock ≠ some g
  d2 : ∀ j g, j < vs.length → (vxx vs j).ownBlock = some g → vR.ownBlock ≠ some g
  g : Gr w W
  b : (w.heap.size ≤ SB ∧ SB < base) ∧ base ≤ W.heap.size
section
variable {w W w' : World} {SB base : Nat} {t : List Bool} {vO : Value} {vs : List Value} {Lo : List (List Int)} {vR : Value} {R : List Int}
theorem RS.below (h : RS w W SB base t vO vs Lo vR R) (hB : Below W.heap.size W w') : RS w w' SB base t vO vs Lo vR R :=
  ⟨At.below hB h.sb, h.q.below hB, own_kp h.r hB, h.d1, h.d2, Gr.step h.g hB, h.b.1, Nat.le_trans h.b.2 hB.size⟩
theorem RS.set (h : RS w W SB base t vO vs Lo vR R) (i : Nat) : RS w (W.setCell ⟨SB, i, none⟩ (.bool true)) SB base (t.set i true) vO vs Lo vR R :=
  ⟨by rw [← br_set]; exact h.sb.put i _, h.q.set h.b.1.2 _ _, own_st h.r h.b.1.2 _ _, h.d1, h.d2, h.g.set h.b.1.1 _ _, h.b.1, by simpa using h.b.2⟩
theorem RS.fresh (h : RS w W SB base t vO vs Lo vR R) : RS w W SB base t vO vs Lo (.slice none 0 0) [] :=
  ⟨h.sb, h.q, World.ownsRow_nil _ _ _ _, fun g _ e => by simp [Value.ownBlock] at e, fun j g _ _ e => by simp [Value.ownBlock] at e, h.g, h.b⟩
theorem RS.app {g cap n : Nat} {x : Int} (h : RS w W SB base t vO vs Lo vR R) (hn : R.length = n) (hr : w'.ownsRow base 3 1 (.slice (some ⟨g, 0, none⟩) (n + 1) cap) (n + 1) (ir (R ++ [x]))) (hg : W.grownBy w' vR.ownBlock) (hat : vR.ownBlock = some g ∨ g = W.heap.size) : RS w w' SB base t vO vs Lo (.slice (some ⟨g, 0, none⟩) (n + 1) cap) (R ++ [x]) := by
  have hlt := h.r.lt
  have ob : (Value.slice (some ⟨g, 0, none⟩) (n + 1) cap).ownBlock = some g := rfl
  have hs := hg.size
  have ne : ∀ {u : Value} {e n : Nat} {xs : List Value} {z : Nat}, W.ownsRow base e 1 u n xs → (∀ g, u.ownBlock = some g → vR.ownBlock ≠ some g) → u.ownBlock = some z → (Value.slice (some ⟨g, 0, none⟩) (R.length + 1) cap).ownBlock ≠ some z := fun {u e n xs z} ho hd hb k => by
    obtain rfl := Option.some.inj (show some g = some z from k)
    rcases hat with c | c
    · exact hd g hb c
    · have := (ho.lt g hb).2; omega
  subst hn
  refine ⟨At.grw h.sb hg (fun e => by have := (hlt SB e).1; have := h.b.1.2; omega), h.q.grw hg h.d1 h.d2, by simpa using hr, fun z hz => ne h.q.o h.d1 hz, fun j z hj hz => ne (h.q.i j hj) (h.d2 j · hj) hz, Below.grown h.g.out hg h.g.out.size (fun k hk => by have := (hlt k hk).1; have := h.b.1; omega), h.b.1, by have := h.b.2; omega⟩
theorem RS.push {g cap n : Nat} (h : RS w W SB base t vO vs Lo vR R) (hn : vs.length = n) (hr : w'.ownsRow base 37 1 (.slice (some ⟨g, 0, none⟩) (n + 1) cap) (n + 1) (vs ++ [vR])) (hg : W.grownBy w' vO.ownBlock) (hat : vO.ownBlock = some g ∨ g = W.heap.size) : RS w w' SB base t (.slice (some ⟨g, 0, none⟩) (n + 1) cap) (vs ++ [vR]) (Lo ++ [R]) (.slice none 0 0) [] := by
  have hlt := h.q.o.lt
  have hs := hg.size
  subst hn
  refine ⟨At.grw h.sb hg (fun e => by have := (hlt SB e).1; have := h.b.1.2; omega), h.q.more (g := g) h.r (fun z hz e => h.d1 z e hz) hr hg rfl (hat.imp id (fun e => by omega)), World.ownsRow_nil _ _ _ _, fun g _ e => by simp [Value.ownBlock] at e, fun j g _ _ e => by simp [Value.ownBlock] at e, Below.grown h.g.out hg h.g.out.size (fun k hk => by have := (hlt k hk).1; have := h.b.1; omega), h.b.1, by have := h.b.2; omega⟩
end
end Go.Proofs.YtnadgoomkaldkaaDoor
namespace Go.Proofs.YtnadgoomkaldkaaDoor
open Go.RowKit
attribute [local go_sem ↓] Go.wp_at_zero Go.wp_at_succ

abbrev tdL (ws : List Nat) : List Int := ws.map tdI
abbrev tdLL (L : List (List Nat)) : List (List Int) := L.map tdL
def lnV : Value → Nat
  | .slice _ n _ => n
  | _ => 0
/-- In the midst of a round. -/
structure MdR (Ls : List (List Sp)) (s0 : List Bool) (q : Nat) (ws : List Nat) (s : List Bool) (way : Nat) : Prop where
  l : s.length = 2 * Ls.length
  lt : way < 2 * Ls.length
  a : ws ++ (remR Ls s way).1 = (remR Ls s0 q).1
  b : (remR Ls s way).2 = (remR Ls s0 q).2
  c : ws.length + frR s = frR s0
theorem MdR.start {Ls : List (List Sp)} {s0 : List Bool} {q : Nat} (hl : s0.length = 2 * Ls.length) (hq : q < 2 * Ls.length) : MdR Ls s0 q [] s0 q := ⟨hl, hq, rfl, rfl, by simp⟩
theorem MdR.step {Ls : List (List Sp)} (hM : OkM Ls) {s0 : List Bool} {q : Nat} {ws : List Nat} {s : List Bool} {way : Nat} (h : MdR Ls s0 q ws s way) (hn : s.getD way true = false) : MdR Ls s0 q (ws ++ [way]) (s.set way true) (nxP Ls way) := by
  have hs := rem_step (Ls := Ls) hn
  refine ⟨by rw [List.length_set]; exact h.l, hM.lt h.lt, ?_, ?_, ?_⟩
  · rw [← h.a, hs]; simp
  · rw [← h.b, hs]
  · have := frR_set hn
    have := h.c
    simp only [List.length_append, List.length_singleton]
    omega
theorem MdR.fin {Ls : List (List Sp)} {s0 : List Bool} {q : Nat} {ws : List Nat} {s : List Bool} {way : Nat} (h : MdR Ls s0 q ws s way) (hn : s.getD way true = true) : (remR Ls s0 q).1 = ws ∧ (remR Ls s0 q).2 = s := by
  have ha := h.a
  have hb := h.b
  rw [rem_seen hn] at ha hb
  exact ⟨by rw [← ha]; simp, hb.symm⟩
theorem MdR.len {Ls : List (List Sp)} {s0 : List Bool} {q : Nat} {ws : List Nat} {s : List Bool} {way : Nat} (h : MdR Ls s0 q ws s way) (hl : s0.length = 2 * Ls.length) : ws.length ≤ 2 * Ls.length := by
  have h1 := h.c
  have h2 := frR_le s0
  omega
theorem MdR.len2 {Ls : List (List Sp)} {s0 : List Bool} {q : Nat} {ws : List Nat} {s : List Bool} {way : Nat} (h : MdR Ls s0 q ws s way) (hl : s0.length = 2 * Ls.length) (hn : s.getD way true = false) : ws.length < 2 * Ls.length := by
  have h1 := h.c
  have h2 := frR_le s0
  have h3 := frR_set hn
  omega
theorem roF_no {Ls : List (List Sp)} {q : Nat} (h : (remR Ls (roF Ls q).2 q).1 = []) : (roF Ls (q + 1)).1 = (roF Ls q).1 := by
  show (if (remR Ls (roF Ls q).2 q).1 = [] then (roF Ls q).1 else (roF Ls q).1 ++ [(remR Ls (roF Ls q).2 q).1]) = _
  exact if_pos h
theorem roF_yes {Ls : List (List Sp)} {q : Nat} (h : (remR Ls (roF Ls q).2 q).1 ≠ []) : (roF Ls (q + 1)).1 = (roF Ls q).1 ++ [(remR Ls (roF Ls q).2 q).1] := by
  show (if (remR Ls (roF Ls q).2 q).1 = [] then (roF Ls q).1 else (roF Ls q).1 ++ [(remR Ls (roF Ls q).2 q).1]) = _
  exact if_neg h
set_option maxRecDepth 4000 in
set_option maxHeartbeats 16000000 in
theorem rounds_any {ad : Option Addr} {b o cap : Nat} {Ls : List (List Sp)} (hM : OkM Ls) (hok : okL Ls) (w : World) (h : LLs w ad b o cap Ls) (hN : Ls.length ≤ 5000) (ll : ∀ i, i < Ls.length → (lx Ls i).length ≤ 5000) : Calls Tryd.prog 28 #[.slice ad Ls.length cap] w fun e w' => ∃ base v vs, e = .returned v ∧ RQ w' base v vs (tdLL (roP Ls)) ∧ Gr w w' := by
  have HNx := hidb (fun u (hu : u < 2 * Ls.length) W (hG : Gr w W) => next_any (u := u) W (h.below hG.out) hu hN (fun i hi => (hM.a i hi).1) ll hok)
  have HSt : Hid (∀ s0 q ws s way, MdR Ls s0 q ws s way → s.getD way true = false → MdR Ls s0 q (ws ++ [way]) (s.set way true) (nxP Ls way)) := fun s0 q ws s way hm hn => hm.step hM hn
  have HRo := hidb (roF_all hM)
  have HRl := hidb (fun q => roF_len (Ls := Ls) q)
  have HR0 := hidb (show roF Ls 0 = ([], List.replicate (2 * Ls.length) false) from rfl)
  have HRs := hidb (show ∀ q, (roF Ls (q + 1)).2 = (remR Ls (roF Ls q).2 q).2 from fun _ => rfl)
  have HRp := hidb (show roP Ls = (roF Ls (2 * Ls.length)).1 from rfl)
  have HMl := hidb (fun (s0 : List Bool) q ws s way (hm : MdR Ls s0 q ws s way) (hl : s0.length = 2 * Ls.length) => And.intro (hm.len hl) (hm.len2 hl))
  have HMt := hidb (fun s0 q ws s way (hm : MdR Ls s0 q ws s way) => And.intro hm.lt hm.l)
  have HMs := hidb (fun (s0 : List Bool) (q : Nat) (hl : s0.length = 2 * Ls.length) (hq : q < 2 * Ls.length) => MdR.start hl hq)
  obtain ⟨CS, hCS, mk⟩ := made_runB (2 * Ls.length) (by omega)
  obtain ⟨K, hK⟩ : ∃ K, K = 2 * Ls.length := ⟨_, rfl⟩
  obtain ⟨N, hNn⟩ : ∃ N, N = Ls.length := ⟨_, rfl⟩
  rw [← hK] at HNx HRo HRl HR0 HRp HMl HMt HMs hCS mk
  rw [← hNn] at HNx hN hK ⊢
  have HKb := hidb (show K ≤ 10000 by omega)
  have eN : IntKind.i64.wrap (2 * (N : Int)) = (K : Int) := by rw [show 2 * (N : Int) = (K : Int) by omega]; exact wr_in (by omega) (by omega)
  have E0 : Hid (RS w (w.alloc (.cells CS 4)) w.heap.size (w.heap.size + 1) (roF Ls 0).2 (.slice none 0 0) [] (tdLL (roF Ls 0).1) (.slice none 0 0) []) := by
    rw [HR0.out]
    exact ⟨by rw [← hCS]; exact At.newArr _ _ _, RQ.nil _ _, World.ownsRow_nil _ _ _ _, fun g e => by simp [Value.ownBlock] at e, fun j _ hj => by simp at hj, (Gr.refl w).alloc _, ⟨Nat.le_refl _, Nat.lt_succ_self _⟩, by simp⟩
  clear h hN ll hM hok hNn hCS hK
  go_enter Tryd.func28, Tryd.ntmps28
  go_wp2
  generalize w.alloc (.cells CS 4) = W1 at *
  obtain ⟨base, hbase⟩ : ∃ z, z = w.heap.size + 1 := ⟨_, rfl⟩
  rw [← hbase] at E0
  generalize w.heap.size = SB at *
  clear hbase mk
  go_loopw [3, 14] (fun v t wr => ∃ (q : Nat) (vs : List Value), q ≤ K ∧ t = .int .i64 (q : Int) ∧ Hid (RS w wr SB base (roF Ls q).2 v vs (tdLL (roF Ls q).1) (.slice none 0 0) [])) (fun _ t _ => K - (intOf t).toNat)
  case atStart => exact ⟨0, [], Nat.zero_le _, rfl, E0⟩
  case round =>
    clear E0
    obtain ⟨q, vs, hq, rfl, E⟩ := hrel
    obtain ⟨adv, capv, rfl⟩ := own_sh E.out.q.o
    by_cases h1 : ¬ q < K
    · have h1' : ¬ (q : Int) < (K : Int) := by omega
      have HZ := hidb (show roP Ls = (roF Ls q).1 by rw [HRp.out, show K = q by omega])
      clear h1
      go_wp2
      go_ret
      exact ⟨base, _, rfl, ⟨vs, by rw [HZ.out]; exact E.out.q⟩, E.out.g⟩
    · have h1' : (q : Int) < (K : Int) := by omega
      have H1 := hidb (show q < K by omega)
      have e1 : IntKind.i64.wrap ((q : Int) + 1) = ((q + 1 : Nat) : Int) := by rw [show (q : Int) + 1 = ((q + 1 : Nat) : Int) by omega]; exact wr_in (by omega) (by have := HKb.out; omega)
      have HS1 := hidb (HRs.out q)
      have HF1 := hidb (fun h => roF_no (Ls := Ls) (q := q) h)
      have HF2 := hidb (fun h => roF_yes (Ls := Ls) (q := q) h)
      have HL0 := hidb (HRl.out q)
      have HOl := hidb (HRo.out q hq).2.2
      have HVl := hidb E.out.q.n
      generalize (roF Ls q).2 = s0 at *
      generalize (roF Ls q).1 = L0 at *
      have F0 := hidb (HMs.out s0 q HL0.out H1.out)
      generalize hvl : vs.length = vl at *
      clear h1
      go_wp2
      go_loopw [6, 7] (fun r t wx => ∃ (ws : List Nat) (way : Nat) (s : List Bool), t = .int .i64 (way : Int) ∧ Hid (RS w wx SB base s (.slice adv vl capv) vs (tdLL L0) r (tdL ws) ∧ MdR Ls s0 q ws s way)) (fun r _ _ => K + 1 - lnV r)
      case atStart => exact ⟨[], q, s0, rfl, hidb ⟨E.out, F0.out⟩⟩
      case round =>
        clear E F0
        obtain ⟨ws, way, s, rfl, E⟩ := hrel
        obtain ⟨adr, capr, rfl⟩ := own_sh E.out.1.r
        have HB := hidb (HMl.out _ _ _ _ _ E.out.2 HL0.out)
        have HT := hidb (HMt.out _ _ _ _ _ E.out.2)
        have hbi := bindex SB K K way HT.out.1
        obtain ⟨cs, fs⟩ := E.out.1.sb.getb (j := way) (by rw [HT.out.2]; exact HT.out.1)
        obtain ⟨n, hn⟩ : ∃ n, n = ws.length := ⟨_, rfl⟩
        have HRn := hidb (show (tdL ws).length = n by simp [hn])
        have HNb := hidb (show n ≤ K ∧ (s.getD way true = false → n < K) by rw [hn]; exact HB.out)
        have HNe := hidb (show n = 0 ↔ ws = [] by rw [hn]; exact List.length_eq_zero_iff)
        rw [HRn.out] at E ⊢
        clear hn
        by_cases h2 : s.getD way true = true
        · rw [show glb s way = true from h2] at cs
          have HF := hidb (E.out.2.fin h2)
          clear h2
          by_cases h3 : n = 0
          · have HZ := hidb (show (roF Ls (q + 1)).1 = L0 from HF1.out (by rw [HF.out.1]; exact HNe.out.1 h3))
            subst h3
            go_wp2
            go_roundw
            case rel => exact ⟨q + 1, vs, H1.out, by go_num, hidb (by rw [HS1.out, HF.out.2, HZ.out]; exact E.out.1.fresh)⟩
            case measure => have := H1.out; simp [intOf]; omega
          · have h3' : (0 : Int) < (n : Int) := by omega
            have HZ := hidb (show (roF Ls (q + 1)).1 = L0 ++ [ws] by rw [← HF.out.1]; exact HF2.out (by rw [HF.out.1]; exact fun e => h3 (HNe.out.2 e)))
            clear h3
            have HVb := hidb (show vl ≤ 20000 by have := HVl.out; have := HOl.out; have := HKb.out; have := H1.out; simp at *; omega)
            have HVe := hidb hvl
            clear hvl
            go_wp2_with (at_builtin; refine wpList_sx _ base (.slice adv vl capv) vs (.slice adr n capr) vl wr.heap.size _ _ rfl rfl rfl rfl HVe.out HVb.out rfl (by have := E.out.1.q.o.alloc (.cells #[.slice adr n capr] 37); rw [HVe.out] at this; exact this) (At.new1 _ _ _) (by have := E.out.1.b.2; simp; omega) ?_; intro g2 cap2 w2 hr2 hg2 hat2)
            have F2 := hidb ((E.out.1.below ((Below.refl _ _).alloc (Nat.le_refl _) (.cells #[.slice adr n capr] 37))).push HVe.out hr2.out hg2.out hat2.out)
            clear hr2 hg2 hat2
            go_roundw
            case rel => exact ⟨q + 1, _, H1.out, by go_num, hidb (by rw [HS1.out, HF.out.2, HZ.out, show tdLL (L0 ++ [ws]) = tdLL L0 ++ [tdL ws] by simp]; exact F2.out)⟩
            case measure => have := H1.out; simp [intOf]; omega
        · rw [show glb s way = false by unfold glb; simpa using h2] at cs
          have HS := hidb (HSt.out _ _ _ _ _ E.out.2 (by simpa using h2))
          have HB2 := hidb (HNb.out.2 (by simpa using h2))
          clear h2
          go_upto_region 11 with fail
          have F1 := hidb (E.out.1.set way)
          generalize wr.setCell ⟨SB, way, none⟩ (.bool true) = w2 at *
          clear E cs fs hbi
          go_upto_region 9 with (first | (go_at_call 46; refine (told_any (k := way) (by have := HT.out.1; have := HKb.out; omega) _).mono ?_; rintro e w3 ⟨rfl, rfl⟩) | (at_builtin; refine wpList_ii _ base (.slice adr n capr) (tdL ws) (tdI way) n _ _ _ rfl rfl rfl rfl HRn.out (by have := HB2.out; have := HKb.out; omega) (by have := F1.out.r.alloc (.cells #[.int .i64 (tdI way)] 3); rw [HRn.out] at this; exact this) (At.new1 _ _ _) (by have := F1.out.b.2; simp; omega) ?_; intro g2 cap2 w4 hr2 hg2 hat2))
          have F2 := hidb ((F1.out.below ((Below.refl _ _).alloc (Nat.le_refl _) (.cells #[.int .i64 (tdI way)] 3))).app HRn.out hr2.out hg2.out hat2.out)
          clear hr2 hg2 hat2 F1
          go_wp2_with (go_at_call 45; refine (HNx.out way HT.out.1 _ F2.out.g).mono ?_; rintro e w5 ⟨rfl, hB5⟩)
          have F3 := hidb (F2.out.below hB5.out)
          clear F2 hB5
          go_roundw
          case rel => exact ⟨ws ++ [way], nxP Ls way, s.set way true, rfl, hidb ⟨by rw [show tdL (ws ++ [way]) = tdL ws ++ [tdI way] by simp]; exact F3.out, HS.out⟩⟩
          case measure => have := HB2.out; simp [lnV]; omega
end Go.Proofs.YtnadgoomkaldkaaDoor
namespace Go.Proofs.YtnadgoomkaldkaaDoor
open Go.RowKit
attribute [local go_sem ↓] Go.wp_at_zero Go.wp_at_succ

/-- Where the reference marks a way. -/
def gxN (n q : Nat) : Nat := if q % 2 = 0 then q / 2 + 1 + n else n - 1 - q / 2
theorem gxN_lt {n q : Nat} (h : q < 2 * n) : gxN n q < 2 * n + 1 := by unfold gxN; split <;> omega
theorem gxN_inj {n p q : Nat} (hp : p < 2 * n) (hq : q < 2 * n) (h : gxN n p = gxN n q) : p = q := by unfold gxN at h; split at h <;> split at h <;> omega
/-- What the reference has marked is what is seen. -/
structure GnR (n : Nat) (t s : List Bool) : Prop where
  l : t.length = 2 * n + 1
  a : ∀ q, q < 2 * n → glb t (gxN n q) = s.getD q true
theorem GnR.start (n : Nat) : GnR n (List.replicate (2 * n + 1) false) (List.replicate (2 * n) false) :=
  ⟨by simp, fun q hq => by have := gxN_lt hq; unfold glb; simp [List.getD_eq_getElem?_getD, hq, this]⟩
theorem GnR.set {n : Nat} {t s : List Bool} {q : Nat} (h : GnR n t s) (hs : s.length = 2 * n) (hq : q < 2 * n) : GnR n (t.set (gxN n q) true) (s.set q true) := by
  refine ⟨by rw [List.length_set]; exact h.l, fun p hp => ?_⟩
  have hl := gxN_lt hq
  by_cases e : p = q
  · subst e
    have h1 : gxN n p < t.length := by rw [h.l]; exact hl
    unfold glb
    simp [List.getD_eq_getElem?_getD, h1, hs, hp]
  · have h1 : gxN n q ≠ gxN n p := fun k => e (gxN_inj hq hp k).symm
    have := h.a p hp
    unfold glb at *
    simp only [List.getD_eq_getElem?_getD, List.getElem?_set_ne h1, List.getElem?_set_ne (Ne.symm e)] at *
    exact this
end Go.Proofs.YtnadgoomkaldkaaDoor
namespace Go.Proofs.YtnadgoomkaldkaaDoor
open Go.RowKit
attribute [local go_sem ↓] Go.wp_at_zero Go.wp_at_succ

theorem mcd_okL {Ls : List (List Sp)} (h : mcd Ls = 0) : okL Ls := fun i hi k hk => (((mcd_ok h).2.2.1 i hi).2.1 k hk).1
theorem len_le {Ls : List (List Sp)} {i : Nat} (hi : i < Ls.length) : (lx Ls i).length ≤ Ls.flatten.length := by
  have h1 := take_flat Ls hi
  have h2 := flat_le Ls (i + 1)
  rw [h1, List.length_append, lx_get hi] at h2
  omega
set_option maxRecDepth 4000 in
theorem faces_ok (g : Nat → Addr) {ad : Option Addr} {b o cap : Nat} {Ls : List (List Sp)} (hc : mcd Ls = 0) (w : World) (h : LLd w ad b o cap Ls) (hl : Lc w g) : Calls Tryd.prog 12 #[.agg #[.slice ad Ls.length cap]] w fun e w' => ∃ base v vs, e = .returned (.tuple #[v, .nilIface]) ∧ RQ w' base v vs (tdLL (roP Ls)) ∧ Gr w w' := by
  have PX : Hid (PF1 w (w.alloc (.cells #[.slice ad Ls.length cap] 32)) w.heap.size [.slice ad Ls.length cap]) := ⟨At.new1 _ _ _, (Gr.refl w).alloc _⟩
  obtain ⟨m1, m2, -, -, -⟩ := mcd_ok hc
  have HV := hidb (mvalid_any g m1 (by omega) _ (h.below PX.out.gr.out) (hl.below PX.out.gr.out))
  rw [hc] at HV
  have HR := hidb (fun W (hG : Gr w W) => rounds_any (OkM.of hc) (mcd_okL hc) W (h.ll.below hG.out) (by omega) (fun i hi => by have := len_le hi; omega))
  have HE := hidb (show ev g 0 = .nilIface from rfl)
  rw [HE.out] at HV
  clear h hc m1 m2
  obtain ⟨N, hN⟩ : ∃ N, N = Ls.length := ⟨_, rfl⟩
  rw [← hN] at HV HR PX ⊢
  clear hN
  go_enter Tryd.func12, Tryd.ntmps12
  have cP := PX.out.a.c1
  go_wp2_with (first | (go_at_call 10; refine HV.out.mono ?_; rintro e w2 ⟨rfl, hB⟩; have cQ := (PX.out.below hB.out).a.c1; have HG := hidb (PX.out.below hB.out).gr) | (go_at_call 28; refine (HR.out _ HG.out).mono ?_; rintro e w3 ⟨base, v, vs, rfl, hQ, hB3⟩))
  have HG2 := hidb (Gr.step HG.out hB3.out)
  clear PX HV HR hB cP cQ hB3 HG
  go_wp2
  go_ret2
  exact ⟨base, _, vs, rfl, hQ, HG2.out⟩
end Go.Proofs.YtnadgoomkaldkaaDoor
