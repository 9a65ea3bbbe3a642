/-
  mercatorlaw5.few, ringed; two rows of points that a call owns.
-/
import Derived.Test.YtnadgoomkaldkaaDoorQShP
namespace Go.Proofs.YtnadgoomkaldkaaDoor
open Go.RowKit
attribute [local go_sem ↓] Go.wp_at_zero Go.wp_at_succ

def fwP (n : Nat) : Prop := n ≤ 30 ∨ (4000 < n ∧ n < 4005)
instance (n : Nat) : Decidable (fwP n) := by unfold fwP; exact inferInstance
theorem infoS2 : (Tryd.prog.info? 52).map (fun i => (i.zero, i.size, i.bytes)) = some (some (.agg #[.int .i64 0, .int .i64 0]), 2, 16) := by kernel_rfl
theorem undS2 : Tryd.prog.underlying 43 = some (.slice 52) := by kernel_rfl
theorem wpList_s2 {ops : Array Oper} {rest : List Oper} {o : Oper} {a : Act} {Q : Exit → Act → World → Prop} (W : World) (b0 : Nat) (v : Value) (l : List Sp) (r : Sp) (n B : Nat) (s x : Operand) (hgd : o.guard = none)
    (ho : o.op = .call { callee := .builtin .append, args := #[s, x], argTypes := #[43, 43] }) (hs : a.eval s = v) (hx : a.eval x = .slice (some ⟨B, 0, none⟩) 1 1) (hn : l.length = n) (hl : n ≤ 10000)
    (hO : W.ownsRow b0 52 2 v n (sr l)) (hN : At W B (sc r)) (hb : b0 ≤ W.heap.size)
    (h : ∀ g cap w', Hid (w'.ownsRow b0 52 2 (.slice (some ⟨g, 0, none⟩) (n + 1) cap) (n + 1) (sr (l ++ [r]))) → Hid (W.grownBy w' v.ownBlock) → Hid (v.ownBlock = some g ∨ g = W.heap.size) → wpList Tryd.prog ops Q rest (a.put o.dst (.slice (some ⟨g, 0, none⟩) (n + 1) cap)) w') : wpList Tryd.prog ops Q (o :: rest) a W := by
  have hml : 100000 ≤ maxLen := by decide
  have ones : ∀ u ∈ sc r, u.oneCell' = true := by
    intro u hu
    simp only [List.mem_cons, List.not_mem_nil, or_false] at hu
    rcases hu with rfl | rfl <;> rfl
  obtain ⟨i0, hi, hz0, hz1, hz2⟩ := info_pt infoS2
  refine wpList_append_own_at _ hgd s x _ ho b0 _ i0 (.agg #[.int .i64 0, .int .i64 0]) 2 16 undS2 hi hz0 hz1 hz2 rfl (by decide) v n (sr l) hs hO ⟨B, 0, none⟩ 1 1 (sc r) hx rfl (news_at hN) ones (by omega) (by omega) hb ?_
  intro v' w' hown hgrow _ hloc
  rw [sr_snoc] at hown
  obtain ⟨g, cap, rfl⟩ : ∃ g cap, v' = .slice (some ⟨g, 0, none⟩) (n + 1) cap := by
    obtain ⟨_, ⟨_, h0⟩ | ⟨g, cap, cur, hv, _⟩⟩ := hown
    · omega
    · exact ⟨g, cap, hv⟩
  refine h g cap w' hown hgrow ?_
  rcases hloc with e | e
  · exact .inl e.symm
  · exact .inr (Option.some.inj e)
/-- Two rows of points, in blocks of their own. -/
structure Tw (W : World) (base : Nat) (v : Value) (l : List Sp) (v' : Value) (l' : List Sp) : Prop where
  r1 : W.ownsRow base 52 2 v l.length (sr l)
  r2 : W.ownsRow base 52 2 v' l'.length (sr l')
  ne : ∀ k, v.ownBlock = some k → v'.ownBlock ≠ some k
theorem Tw.below {W w' : World} {base : Nat} {v v' : Value} {l l' : List Sp} (h : Tw W base v l v' l') (hB : Below W.heap.size W w') : Tw w' base v l v' l' := ⟨own_kp h.r1 hB, own_kp h.r2 hB, h.ne⟩
theorem Tw.alloc {W : World} {base : Nat} {v v' : Value} {l l' : List Sp} (h : Tw W base v l v' l') (o : Obj) : Tw (W.alloc o) base v l v' l' := ⟨h.r1.alloc o, h.r2.alloc o, h.ne⟩
theorem Tw.nil (W : World) (base : Nat) : Tw W base (.slice none 0 0) [] (.slice none 0 0) [] := ⟨World.ownsRow_nil _ _ _ _, World.ownsRow_nil _ _ _ _, fun k h => by cases h⟩
theorem tw_kept {W w' : World} {base n : Nat} {v v' : Value} {xs : List Value} (h : W.ownsRow base 52 2 v' n xs) (hg : W.grownBy w' v.ownBlock) (ne : ∀ k, v.ownBlock = some k → v'.ownBlock ≠ some k) : w'.ownsRow base 52 2 v' n xs := by
  refine h.kept hg ?_
  cases e : v'.ownBlock with
  | none => exact .inl rfl
  | some k => exact .inr (fun e2 => ne k e2.symm e)
theorem Tw.app1 {W w' : World} {base g cap n : Nat} {v v' : Value} {l l' : List Sp} {x : Sp} (h : Tw W base v l v' l') (hn : l.length = n) (hr : w'.ownsRow base 52 2 (.slice (some ⟨g, 0, none⟩) (n + 1) cap) (n + 1) (sr (l ++ [x]))) (hg : W.grownBy w' v.ownBlock) (hat : v.ownBlock = some g ∨ g = W.heap.size) : Tw w' base (.slice (some ⟨g, 0, none⟩) (n + 1) cap) (l ++ [x]) v' l' := by
  refine ⟨by rw [List.length_append, hn]; exact hr, tw_kept h.r2 hg h.ne, fun k hk => ?_⟩
  have hk' : g = k := Option.some.inj hk
  subst hk'
  rcases hat with e | e
  · exact h.ne g e
  · intro e2
    have h1 := (h.r2.lt g e2).2
    omega
theorem Tw.app2 {W w' : World} {base g cap n : Nat} {v v' : Value} {l l' : List Sp} {x : Sp} (h : Tw W base v l v' l') (hn : l'.length = n) (hr : w'.ownsRow base 52 2 (.slice (some ⟨g, 0, none⟩) (n + 1) cap) (n + 1) (sr (l' ++ [x]))) (hg : W.grownBy w' v'.ownBlock) (hat : v'.ownBlock = some g ∨ g = W.heap.size) : Tw w' base v l (.slice (some ⟨g, 0, none⟩) (n + 1) cap) (l' ++ [x]) := by
  refine ⟨tw_kept h.r1 hg (fun k hk e => h.ne k e hk), by rw [List.length_append, hn]; exact hr, fun k hk e2 => ?_⟩
  have hk' : g = k := Option.some.inj e2
  subst hk'
  rcases hat with e | e
  · exact h.ne g hk e
  · have h1 := (h.r1.lt g hk).2
    omega
theorem SSl.grw {W w2 : World} {ad : Option Addr} {b o cap : Nat} {l : List Sp} {row : Option Nat} (h : SSl W ad b o cap l) (hg : W.grownBy w2 row) (hne : row ≠ some b) : SSl w2 ad b o cap l :=
  ⟨fun i hi => by
    obtain ⟨⟨h1, h2⟩, h3⟩ := h.row i hi
    have hb := hg.block b h3 (fun e => hne e.symm)
    exact ⟨⟨(World.cell?_of_block (w := W) (a := ⟨b, o + i * 2, none⟩) hb).trans h1, (World.cell?_of_block (w := W) (a := ⟨b, o + i * 2 + 1, none⟩) hb).trans h2⟩, Nat.lt_of_lt_of_le h3 hg.size⟩, h.ix⟩
/-- What lies in memory while a ring is turned and moved. -/
structure LT (w W : World) (base : Nat) (p q : Sp) (ad : Option Addr) (b o cap : Nat) (l : List Sp) (v : Value) (L1 : List Sp) (v' : Value) (L2 : List Sp) : Prop where
  p : At W w.heap.size (sc p)
  q : At W (w.heap.size + 1) (sc q)
  s : SSl W ad b o cap l
  tw : Tw W base v L1 v' L2
  gr : Gr w W
  lt : w.heap.size + 1 < base ∧ base ≤ W.heap.size ∧ b < base
section
variable {w W : World} {base : Nat} {p q : Sp} {ad : Option Addr} {b o cap : Nat} {l : List Sp} {v v' : Value} {L1 L2 : List Sp}
theorem LT.below {w' : World} (h : LT w W base p q ad b o cap l v L1 v' L2) (hB : Below W.heap.size W w') : LT w w' base p q ad b o cap l v L1 v' L2 :=
  ⟨At.below hB h.p, At.below hB h.q, h.s.below hB, h.tw.below hB, Gr.step h.gr hB, h.lt.1, Nat.le_trans h.lt.2.1 hB.size, h.lt.2.2⟩
theorem LT.alloc (h : LT w W base p q ad b o cap l v L1 v' L2) (ob : Obj) : LT w (W.alloc ob) base p q ad b o cap l v L1 v' L2 := h.below ((Below.refl _ _).alloc (Nat.le_refl _) ob)
theorem LT.app1 {w' : World} {g cp n : Nat} {x : Sp} (h : LT w W base p q ad b o cap l v L1 v' L2) (hn : L1.length = n) (hr : w'.ownsRow base 52 2 (.slice (some ⟨g, 0, none⟩) (n + 1) cp) (n + 1) (sr (L1 ++ [x]))) (hg : W.grownBy w' v.ownBlock) (hat : v.ownBlock = some g ∨ g = W.heap.size) : LT w w' base p q ad b o cap l (.slice (some ⟨g, 0, none⟩) (n + 1) cp) (L1 ++ [x]) v' L2 := by
  have hv : ∀ i, i < base → v.ownBlock ≠ some i := fun i hi e => by have := (h.tw.r1.lt i e).1; omega
  exact ⟨h.p.grw hg (hv _ (by have := h.lt; omega)), h.q.grw hg (hv _ h.lt.1), h.s.grw hg (hv _ h.lt.2.2), h.tw.app1 hn hr hg hat, Below.grown h.gr.out hg h.gr.out.size (fun k hk => by have := (h.tw.r1.lt k hk).1; have := h.lt; omega), h.lt.1, Nat.le_trans h.lt.2.1 hg.size, h.lt.2.2⟩
theorem LT.app2 {w' : World} {g cp n : Nat} {x : Sp} (h : LT w W base p q ad b o cap l v L1 v' L2) (hn : L2.length = n) (hr : w'.ownsRow base 52 2 (.slice (some ⟨g, 0, none⟩) (n + 1) cp) (n + 1) (sr (L2 ++ [x]))) (hg : W.grownBy w' v'.ownBlock) (hat : v'.ownBlock = some g ∨ g = W.heap.size) : LT w w' base p q ad b o cap l v L1 (.slice (some ⟨g, 0, none⟩) (n + 1) cp) (L2 ++ [x]) := by
  have hv : ∀ i, i < base → v'.ownBlock ≠ some i := fun i hi e => by have := (h.tw.r2.lt i e).1; omega
  exact ⟨h.p.grw hg (hv _ (by have := h.lt; omega)), h.q.grw hg (hv _ h.lt.1), h.s.grw hg (hv _ h.lt.2.2), h.tw.app2 hn hr hg hat, Below.grown h.gr.out hg h.gr.out.size (fun k hk => by have := (h.tw.r2.lt k hk).1; have := h.lt; omega), h.lt.1, Nat.le_trans h.lt.2.1 hg.size, h.lt.2.2⟩
end
/-- The remainder by a thousand. -/
def thM (x : Int) : Int := x.tmod 1000
theorem thM_bd (x : Int) : -1000 < thM x ∧ thM x < 1000 := by
  unfold thM
  have := Int.tmod_lt_of_pos x (show (0 : Int) < 1000 by decide)
  have := Int.lt_tmod_of_pos x (show (0 : Int) < 1000 by decide)
  omega
end Go.Proofs.YtnadgoomkaldkaaDoor
