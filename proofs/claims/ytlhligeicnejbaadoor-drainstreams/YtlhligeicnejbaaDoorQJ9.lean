/-
  A flood in memory; drain.flood's wait.; drain.flood's take.; drain.flood's take: the walk.
-/
import Derived.Test.YtlhligeicnejbaaDoorQJ5
import Derived.Test.YtlhligeicnejbaaDoorQJ8
import Derived.Lib.MinMax
import Derived.Test.YtlhligeicnejbaaDoorQJ4
import Derived.Deep.CutRange
import Derived.Deep.RegionHeld3
namespace Go.Proofs.YtlhligeicnejbaaDoor
open Go.RowKit

abbrev on (l : List Nat) : List Int := l.map Int.ofNat
/-- A flood in memory, made since w0: its block F, the rows of heights LV and of directions FL, the order and the queue. -/
structure FM (w0 w : World) (base F LV FL N : Nat) (a b c : Value) (Lv Fl : List Int) (vo : Value) (ord : List Nat) (vq : Value) (q : List Wt) : Prop where
  gr : Gr w0 w
  f : At w F [a, b, c, .slice (some ⟨LV, 0, none⟩) N N, .slice (some ⟨FL, 0, none⟩) N N, vo, vq]
  lv : At w LV (ir Lv)
  fl : At w FL (ir Fl)
  ll : Lv.length = N ∧ Fl.length = N
  ro : w.ownsRow base 3 1 vo ord.length (ir (on ord))
  rq : w.ownsRow base 109 2 vq q.length (qr q)
  hp : Hp q q.length
  b1 : (w0.heap.size ≤ F ∧ w0.heap.size ≤ LV ∧ w0.heap.size ≤ FL) ∧ (F < base ∧ LV < base ∧ FL < base) ∧ base ≤ w.heap.size ∧ w0.heap.size ≤ base
  b2 : F ≠ LV ∧ F ≠ FL ∧ LV ≠ FL
  dis : ∀ k, vo.ownBlock = some k → vq.ownBlock ≠ some k
section
variable {w0 w : World} {base F LV FL N : Nat} {a b c : Value} {Lv Fl : List Int} {vo : Value} {ord : List Nat} {vq : Value} {q : List Wt}
theorem FM.below {w' : World} (h : FM w0 w base F LV FL N a b c Lv Fl vo ord vq q) (hB : Below w.heap.size w w') : FM w0 w' base F LV FL N a b c Lv Fl vo ord vq q :=
  ⟨Gr.step h.gr hB, At.below hB h.f, At.below hB h.lv, At.below hB h.fl, h.ll, own_keep h.ro hB, own_keep h.rq hB, h.hp, ⟨h.b1.1, h.b1.2.1, Nat.le_trans h.b1.2.2.1 hB.size, h.b1.2.2.2⟩, h.b2, h.dis⟩
theorem FM.drew (h : FM w0 w base F LV FL N a b c Lv Fl vo ord vq q) : FM w0 w.drew base F LV FL N a b c Lv Fl vo ord vq q :=
  ⟨h.gr.drew, h.f, h.lv, h.fl, h.ll, h.ro, h.rq, h.hp, h.b1, h.b2, h.dis⟩
theorem FM.alloc (h : FM w0 w base F LV FL N a b c Lv Fl vo ord vq q) (o : Obj) : FM w0 (w.alloc o) base F LV FL N a b c Lv Fl vo ord vq q := h.below ((Below.refl _ _).alloc (Nat.le_refl _) o)
theorem ir_set (L : List Int) (i : Nat) (x : Int) : (ir L).set i (.int .i64 x) = ir (L.set i x) := by simp [ir]
theorem FM.store (h : FM w0 w base F LV FL N a b c Lv Fl vo ord vq q) (i : Nat) (x y : Int) : FM w0 ((w.setCell ⟨LV, i, none⟩ (.int .i64 x)).setCell ⟨FL, i, none⟩ (.int .i64 y)) base F LV FL N a b c (Lv.set i x) (Fl.set i y) vo ord vq q := by
  obtain ⟨⟨p1, p2, p3⟩, ⟨p4, p5, p6⟩, p7, p8⟩ := h.b1
  obtain ⟨n1, n2, n3⟩ := h.b2
  refine ⟨(h.gr.set p2 i _).set p3 i _, (h.f.skip (Ne.symm n1) i _).skip (Ne.symm n2) i _, ?_, ?_, by simpa using h.ll, own_set (own_set h.ro p5 i _) p6 i _, own_set (own_set h.rq p5 i _) p6 i _, h.hp, ⟨⟨p1, p2, p3⟩, ⟨p4, p5, p6⟩, by simpa using p7, p8⟩, h.b2, h.dis⟩
  · rw [← ir_set]; exact (h.lv.put i _).skip (Ne.symm n3) i _
  · rw [← ir_set]; exact (h.fl.skip n3 i _).put i _
theorem FM.push {w' : World} {g cap : Nat} {q' : List Wt} {n : Nat} (h : FM w0 w base F LV FL N a b c Lv Fl vo ord vq q) (hf : At w' F [a, b, c, .slice (some ⟨LV, 0, none⟩) N N, .slice (some ⟨FL, 0, none⟩) N N, vo, .slice (some ⟨g, 0, none⟩) n cap]) (hO : OW w' base g cap q') (hn : q'.length = n) (hp : Hp q' n) (hF : Fr F vq w w') (hg : vq.ownBlock = some g ∨ w.heap.size ≤ g) : FM w0 w' base F LV FL N a b c Lv Fl vo ord (.slice (some ⟨g, 0, none⟩) n cap) q' := by
  obtain ⟨⟨p1, p2, p3⟩, ⟨p4, p5, p6⟩, p7, p8⟩ := h.b1
  obtain ⟨n1, n2, n3⟩ := h.b2
  have hq : ∀ k, k < base → vq.ownBlock ≠ some k := fun k hk e => by have := (h.rq.lt k e).1; omega
  have ho : ∀ k, vo.ownBlock = some k → k < w.heap.size ∧ base ≤ k := fun k e => ⟨(h.ro.lt k e).2, (h.ro.lt k e).1⟩
  refine ⟨hF.gr h.gr p1 (fun i e => by have := (h.rq.lt i e).1; omega), hf, h.lv.fr hF (Ne.symm n1) (hq _ p5), h.fl.fr hF (Ne.symm n2) (hq _ p6), h.ll, ?_, by subst hn; exact hO, by subst hn; exact hp, ⟨⟨p1, p2, p3⟩, ⟨p4, p5, p6⟩, Nat.le_trans p7 hF.size, p8⟩, h.b2, ?_⟩
  · obtain ⟨h1, h2⟩ := h.ro
    refine ⟨h1, ?_⟩
    rcases h2 with h2 | ⟨g', cap', cur, hv, h3, h4, h5⟩
    · exact .inl h2
    · have e : vo.ownBlock = some g' := by rw [hv]; rfl
      exact .inr ⟨g', cap', cur, hv, h3, (hF.block g' (ho g' e).1 (by omega) (h.dis g' e)).trans h4, h5⟩
  · intro k hk e
    have e' : g = k := by simpa [Value.ownBlock] using e
    rcases hg with hg | hg
    · exact h.dis k hk (by rw [hg, e'])
    · have := (ho k hk).1; omega
theorem FM.c3 (h : FM w0 w base F LV FL N a b c Lv Fl vo ord vq q) : w.cell? ⟨F, 3, none⟩ = some (.slice (some ⟨LV, 0, none⟩) N N) ∧ w.cell? ⟨F, 4, none⟩ = some (.slice (some ⟨FL, 0, none⟩) N N) ∧ w.cell? ⟨F, 5, none⟩ = some vo ∧ w.cell? ⟨F, 6, none⟩ = some vq := ⟨(h.f.1 3 (by simp)).1, (h.f.1 4 (by simp)).1, (h.f.1 5 (by simp)).1, (h.f.1 6 (by simp)).1⟩
end
/-- Blocks of others stay as they are. -/
def Oth (w w' : World) (F LV FL : Nat) (vq vq' : Value) : Prop := ∀ B L, At w B L → B ≠ F ∧ B ≠ LV ∧ B ≠ FL → vq.ownBlock ≠ some B → At w' B L ∧ vq'.ownBlock ≠ some B
set_option maxRecDepth 4000 in
set_option maxHeartbeats 8000000 in
theorem wait_any {w0 : World} {base F LV FL N : Nat} {a b c : Value} {Lv Fl : List Int} {vo : Value} {ord : List Nat} {vq : Value} {q : List Wt} (k : Nat) (x y : Int) (w : World) (h : FM w0 w base F LV FL N a b c Lv Fl vo ord vq q) (hk : k < N) (hn : q.length ≤ 20000) : Calls Tryd.prog 37 #[.pointer (some ⟨F, 0, none⟩), .int .i64 (k : Int), .int .i64 x, .int .i64 y] w fun e w' => e = .returned (.tuple #[]) ∧ ∃ vq' q', FM w0 w' base F LV FL N a b c (Lv.set k x) (Fl.set k y) vo ord vq' q' ∧ q'.Perm (q ++ [(x, k)]) ∧ Oth w w' F LV FL vq vq' := by
  obtain ⟨c3, c4, -, -⟩ := h.c3
  have ix := iindex LV 0 N N k hk
  have jx := iindex FL 0 N N k hk
  rw [Nat.zero_add] at ix jx
  obtain ⟨d1, f1⟩ := h.lv.get (j := k) (by rw [h.ll.1]; exact hk)
  obtain ⟨d2, f2⟩ := h.fl.get (j := k) (by rw [h.ll.2]; exact hk)
  generalize Lv[k]'(by rw [h.ll.1]; exact hk) = z1 at d1
  generalize Fl[k]'(by rw [h.ll.2]; exact hk) = z2 at d2
  obtain ⟨n1, n2, n3⟩ := h.b2
  have n3' : ¬ LV = FL := n3
  have n4' : ¬ FL = LV := fun e => n3 e.symm
  have m1 : ¬ F = LV := n1
  have m2 : ¬ F = FL := n2
  have m3 : ¬ LV = F := fun e => n1 e.symm
  have m4 : ¬ FL = F := fun e => n2 e.symm
  have HS : Hid (FM w0 ((w.setCell ⟨LV, k, none⟩ (.int .i64 x)).setCell ⟨FL, k, none⟩ (.int .i64 y)) base F LV FL N a b c (Lv.set k x) (Fl.set k y) vo ord vq q ∧ (∀ B L, At w B L → B ≠ F ∧ B ≠ LV ∧ B ≠ FL → At ((w.setCell ⟨LV, k, none⟩ (.int .i64 x)).setCell ⟨FL, k, none⟩ (.int .i64 y)) B L)) := ⟨h.store k x y, fun B L hB hne => (hB.skip (Ne.symm hne.2.1) k _).skip (Ne.symm hne.2.2) k _⟩
  have HK := hidb hn
  have HP := hidb (fun w' (E : FM w0 w' base F LV FL N a b c (Lv.set k x) (Fl.set k y) vo ord vq q) => hpush_any (x, k) w' E.f E.rq rfl hn E.b1.2.1.1 E.b1.2.2.1 E.hp)
  dsimp only at HP
  obtain ⟨kI, hkI⟩ : ∃ z : Int, z = (k : Int) := ⟨_, rfl⟩
  rw [← hkI] at ix jx HP ⊢
  clear h hn n1 n2 n3 hkI hk
  go_enter Tryd.func37, Tryd.ntmps37
  go_upto_region 0 with fail
  go_cut [] from 8 to 21 (fun wx => Hid (FM w0 wx base F LV FL N a b c (Lv.set k x) (Fl.set k y) vo ord vq q ∧ (∀ B L, At w B L → B ≠ F ∧ B ≠ LV ∧ B ≠ FL → At wx B L)))
  case first =>
    go_region_law (fail)
    all_goals
      go_wp2_with fail
      go_meet
      with_reducible first | exact HS | exact hidb ⟨HS.out.1.drew, fun B L hB hne => (HS.out.2 B L hB hne).drew⟩
  case rest =>
    clear HS
    have E := hcut
    go_wp2_with fail
    refine (HP.out _ E.out.1).mono ?_
    rintro e w2 ⟨rfl, g, cap, q', hA2, hO2, hp2, hh2, hF2, hg2⟩
    have hl2 := hp2.length_eq
    have HM := hidb (show ∃ vq' q', FM w0 w2 base F LV FL N a b c (Lv.set k x) (Fl.set k y) vo ord vq' q' ∧ q'.Perm (q ++ [(x, k)]) ∧ Oth w w2 F LV FL vq vq' from ⟨_, q', E.out.1.push hA2 hO2 (by rw [hl2]; simp) hh2 hF2 hg2, hp2, fun B L hB hne hv => ⟨(E.out.2 B L hB hne).fr hF2 hne.1 hv, fun e => by
      have e' : g = B := by simpa [Value.ownBlock] using e
      rcases hg2 with h2 | h2
      · exact hv (by rw [h2, e'])
      · have := (E.out.2 B L hB hne).lt; omega⟩⟩)
    clear hA2 hO2 hp2 hh2 hF2 hg2 hl2
    go_wp2
    exact bodyPost_end (results_none rfl _ _ _) rfl ⟨rfl, HM.out⟩
end Go.Proofs.YtlhligeicnejbaaDoor
namespace Go.Proofs.YtlhligeicnejbaaDoor
open Go.RowKit
attribute [local go_sem ↓] Go.wp_at_zero Go.wp_at_succ

/-- An append to a row of whole numbers, at a step of a region that draws its order; where the row lies behind it. -/
theorem step_i2 {ops : Array Oper} {o : Oper} {a : Act} {K : Act → World → Prop} {Q : Exit → Act → World → Prop} {Ep : Prop} (W : World) (b0 : Nat) (v : Value) (l : List Int) (r : Int) (n B : Nat) (s x : Operand) (hgd : o.guard = none)
    (ho : o.op = .call { callee := .builtin .append, args := #[s, x], argTypes := #[30, 30] }) (hs : a.eval s = v) (hx : a.eval x = .slice (some ⟨B, 0, none⟩) 1 1) (hn : l.length = n) (hl : n ≤ 20000)
    (hO : W.ownsRow b0 3 1 v n (ir l)) (hN : At W B [.int .i64 r]) (hb : b0 ≤ W.heap.size)
    (h : ∀ g cap w', w'.ownsRow b0 3 1 (.slice (some ⟨g, 0, none⟩) (n + 1) cap) (n + 1) (ir (l ++ [r])) → W.grownBy w' v.ownBlock → (v.ownBlock = some g ∨ g = W.heap.size) → K (a.put o.dst (.slice (some ⟨g, 0, none⟩) (n + 1) cap)) w') :
    if Region.wanted o (yielded ops a.tmps) = true then Oper.wp Tryd.prog o a W K Q else Ep := by
  have hml : 30000 ≤ maxLen := by decide
  obtain ⟨i0, hi, hz0, hz1, hz2⟩ := info_parts infoJ
  refine step_append_lies W hgd s x _ ho b0 _ i0 (.int .i64 0) 1 8 undI hi hz0 hz1 hz2 rfl (by decide) v n (ir l) hs hO ⟨B, 0, none⟩ 1 1 [.int .i64 r] hx rfl ?_ ?_ (by decide) (by omega) (by omega) hb _ rfl ?_
  · intro j u hu
    match j with
    | 0 => simp at hu; subst hu; exact (hN.1 0 (by simp)).1
    | j + 1 => simp at hu
  · intro u hu; simp at hu; subst hu; rfl
  · intro g cap w' hown hgrow hat _
    rw [ir_snoc] at hown
    exact h g cap w' hown hgrow hat
section
variable {w0 w : World} {base F LV FL N : Nat} {a b c : Value} {Lv Fl : List Int} {vo : Value} {ord : List Nat} {vq : Value} {q : List Wt}
theorem own_grown {W w' : World} {bs e size n : Nat} {v : Value} {xs : List Value} {row : Option Nat} (h : W.ownsRow bs e size v n xs) (hg : W.grownBy w' row) (hne : ∀ k, v.ownBlock = some k → row ≠ some k) : w'.ownsRow bs e size v n xs := by
  have hlt := h.lt
  obtain ⟨h1, h2⟩ := h
  refine ⟨h1, ?_⟩
  rcases h2 with h2 | ⟨g, cap, cur, rfl, h3, h4, h5⟩
  · exact .inl h2
  · exact .inr ⟨g, cap, cur, rfl, h3, (hg.block g (hlt g rfl).2 (fun e2 => hne g rfl e2.symm)).trans h4, h5⟩
theorem FM.order {w' : World} {g cap k : Nat} (h : FM w0 w base F LV FL N a b c Lv Fl vo ord vq q) (hown : w'.ownsRow base 3 1 (.slice (some ⟨g, 0, none⟩) (ord.length + 1) cap) (ord.length + 1) (ir (on ord ++ [(k : Int)]))) (hgr : w.grownBy w' vo.ownBlock) (hat : vo.ownBlock = some g ∨ w.heap.size ≤ g) : FM w0 (w'.setCell ⟨F, 5, none⟩ (.slice (some ⟨g, 0, none⟩) (ord.length + 1) cap)) base F LV FL N a b c Lv Fl (.slice (some ⟨g, 0, none⟩) (ord.length + 1) cap) (ord ++ [k]) vq q := by
  obtain ⟨⟨p1, p2, p3⟩, ⟨p4, p5, p6⟩, p7, p8⟩ := h.b1
  obtain ⟨n1, n2, n3⟩ := h.b2
  have hv : ∀ i, i < base → vo.ownBlock ≠ some i := fun i hi e => by have := (h.ro.lt i e).1; omega
  refine ⟨Gr.set (Below.grown h.gr.out hgr h.gr.out.size (fun i e => by have := (h.ro.lt i e).1; omega)) p1 5 _, (At.grow h.f hgr (hv _ p4)).put 5 _, (At.grow h.lv hgr (hv _ p5)).skip n1 5 _, (At.grow h.fl hgr (hv _ p6)).skip n2 5 _, h.ll, ?_, own_set (own_grown h.rq hgr (fun k e e2 => h.dis k e2 e)) p4 5 _, h.hp, ⟨⟨p1, p2, p3⟩, ⟨p4, p5, p6⟩, by have := hgr.size; simp; omega, p8⟩, h.b2, ?_⟩
  · have e : on (ord ++ [k]) = on ord ++ [(k : Int)] := by simp [on]
    rw [List.length_append, e]
    exact own_set hown p4 5 _
  · intro i hi e
    have e' : g = i := by simpa [Value.ownBlock] using hi
    rcases hat with hat | hat
    · exact h.dis i (by rw [hat, e']) e
    · have := (h.rq.lt i e).2; omega
theorem FM.pop {w' : World} {g cap n : Nat} {q' : List Wt} (h : FM w0 w base F LV FL N a b c Lv Fl vo ord (.slice (some ⟨g, 0, none⟩) (n + 1) cap) q) (hf : At w' F [a, b, c, .slice (some ⟨LV, 0, none⟩) N N, .slice (some ⟨FL, 0, none⟩) N N, vo, .slice (some ⟨g, 0, none⟩) n cap]) (hO : OW w' base g cap (q'.take n)) (hn : q'.length = n + 1) (hp : Hp q' n) (hF : Fr F (.slice (some ⟨g, 0, none⟩) n cap) w w') : FM w0 w' base F LV FL N a b c Lv Fl vo ord (.slice (some ⟨g, 0, none⟩) n cap) (q'.take n) := by
  have hl : (q'.take n).length = n := by rw [List.length_take]; omega
  refine FM.push (q' := q'.take n) h hf hO hl ?_ ⟨hF.os, hF.tape, hF.output, hF.size, hF.block⟩ (.inl rfl)
  intro i h0 h1
  have e : ∀ k, k < n → wx (q'.take n) k = wx q' k := fun k hk => by unfold wx; simp [hk]
  rw [e i h1, e _ (by omega)]
  exact hp i h0 h1
end
end Go.Proofs.YtlhligeicnejbaaDoor
namespace Go.Proofs.YtlhligeicnejbaaDoor
open Go.RowKit
attribute [local go_sem ↓] Go.wp_at_zero Go.wp_at_succ

theorem own_shape1 {w : World} {base : Nat} {v : Value} {n e : Nat} {xs : List Value} (h : w.ownsRow base e 1 v n xs) : ∃ ad cap, v = .slice ad n cap := by
  obtain ⟨_, ⟨rfl, rfl⟩ | ⟨g, cap, cur, hv, _⟩⟩ := h
  · exact ⟨none, 0, rfl⟩
  · exact ⟨_, _, hv⟩
/-- A flood in memory and the one that was taken off, which lies in the block T. -/
structure XT (w0 w : World) (base F LV FL N : Nat) (a b c : Value) (Lv Fl : List Int) (vo : Value) (ord : List Nat) (vq : Value) (q : List Wt) (T : Nat) (x y : Value) : Prop where
  m : FM w0 w base F LV FL N a b c Lv Fl vo ord vq q
  t : At w T [x, y]
  n : (T ≠ F ∧ T ≠ LV ∧ T ≠ FL) ∧ vq.ownBlock ≠ some T ∧ w0.heap.size ≤ T
section
variable {w0 w : World} {base F LV FL N : Nat} {a b c : Value} {Lv Fl : List Int} {vo : Value} {ord : List Nat} {vq : Value} {q : List Wt} {T : Nat} {x y : Value}
theorem XT.below {w' : World} (h : XT w0 w base F LV FL N a b c Lv Fl vo ord vq q T x y) (hB : Below w.heap.size w w') : XT w0 w' base F LV FL N a b c Lv Fl vo ord vq q T x y := ⟨h.m.below hB, At.below hB h.t, h.n⟩
theorem XT.drew (h : XT w0 w base F LV FL N a b c Lv Fl vo ord vq q T x y) : XT w0 w.drew base F LV FL N a b c Lv Fl vo ord vq q T x y := ⟨h.m.drew, h.t, h.n⟩
theorem XT.four (h : XT w0 w base F LV FL N a b c Lv Fl vo ord vq q T x y) : w.cell? ⟨F, 0, none⟩ = some a ∧ w.cell? ⟨F, 1, none⟩ = some b ∧ w.cell? ⟨F, 2, none⟩ = some c ∧ w.cell? ⟨T, 1, none⟩ = some y := ⟨(h.m.f.1 0 (by simp)).1, (h.m.f.1 1 (by simp)).1, (h.m.f.1 2 (by simp)).1, h.t.c2.2⟩
theorem XT.three {Lb Lo Lcap : Nat} {l : List Int} (h : XT w0 w base F LV FL N a b c Lv Fl vo ord vq q T x y) (hR : Rs w0 Lb Lo Lcap l) {i : Nat} (hi : i < l.length) : w.cell? ⟨F, 2, none⟩ = some c ∧ w.cell? ⟨Lb, Lo + i, none⟩ = some (.int .i64 (gl l i)) ∧ w.cell? ⟨T, 0, none⟩ = some x := ⟨(h.m.f.1 2 (by simp)).1, (hR.below h.m.gr.out).get hi, h.t.c2.1⟩
end
theorem max_up1 (x y : Int) : max x y = up1 x y := by unfold up1; omega
theorem stK_st {m n : Nat} {l : List Int} {S : FS} {b k o : Nat} (hk : k < 8) (ho : nbO m n b k = some o) : (stK m l S b k).st o = S.st o := by
  obtain ⟨t1, _, _, t4⟩ := nb_tch hk ho
  show (if o = b then 2 else if NwK m l S b k o then 1 else S.st o) = S.st o
  rw [if_neg (fun e => t1.1 e.symm), if_neg (fun h => by have := h.2; omega)]
theorem flV_dry (m : Nat) (S : FS) (i : Nat) : flV m S i = -1 ↔ S.st i = 0 := by
  unfold flV
  split
  · simp [*]
  · constructor
    · intro h; omega
    · intro h; contradiction
set_option maxRecDepth 4000 in
set_option maxHeartbeats 16000000 in
theorem take_any {w0 : World} {base F LV FL m n Lb Lo Lcap n0 : Nat} {l Lv Fl : List Int} {vo vq : Value} {S : FS} {q : List Wt} (w : World) (hR : Rs w0 Lb Lo Lcap l) (ok : Ok l m n) (h : FM w0 w base F LV FL l.length (.int .i64 (m : Int)) (.int .i64 (n : Int)) (.slice (some ⟨Lb, Lo, none⟩) l.length Lcap) Lv Fl vo S.ord vq q) (hs : Syn m l S Lv Fl q) (hq : q.length = n0 + 1) (hord : S.ord.length ≤ 16384) : Calls Tryd.prog 39 #[.pointer (some ⟨F, 0, none⟩)] w fun e w' => e = .returned (.tuple #[]) ∧ ∃ b Lv' Fl' vo' vq' q', isB S l.length b ∧ FM w0 w' base F LV FL l.length (.int .i64 (m : Int)) (.int .i64 (n : Int)) (.slice (some ⟨Lb, Lo, none⟩) l.length Lcap) Lv' Fl' vo' (S.ord ++ [b]) vq' q' ∧ Syn m l (stepF m l S b) Lv' Fl' q' := by
  have hlen := ok.len_le
  have hql := hs.len
  obtain ⟨g, cap, rfl⟩ : ∃ g cap, vq = .slice (some ⟨g, 0, none⟩) (n0 + 1) cap := by
    have := h.rq
    rw [hq] at this
    obtain ⟨_, ⟨_, h0⟩ | ⟨g, cap, cur, hv, _⟩⟩ := this
    · omega
    · exact ⟨g, cap, hv⟩
  have hO : OW w base g cap q := by have := h.rq; rw [← hq] at this; exact this
  have hHp : Hp q (n0 + 1) := by rw [← hq]; exact h.hp
  obtain ⟨hB, hx0⟩ := hs.best m l hq hHp
  have HPop := hidb (hpop_any w h.f hO hq (by omega) h.b1.2.1.1 hHp)
  obtain ⟨x, hx⟩ : ∃ z, z = (wx q 0).1 := ⟨_, rfl⟩
  obtain ⟨b, hb⟩ : ∃ z, z = (wx q 0).2 := ⟨_, rfl⟩
  have HTk := hidb (fun q' (hp : q'.Perm q) (hw : wx q' n0 = wx q 0) => hs.take m l hq hp hw hB.2.1)
  rw [← hb] at hB hx0 HTk
  rw [← hx] at hx0
  rw [← hx, ← hb] at HPop
  have HB := hidb hB
  have HX := hidb hx0
  have HOk := hidb ok
  have HR := hidb hR
  have HM := hidb h
  have HL := hidb (show l.length ≤ 16384 ∧ q.length = n0 + 1 ∧ b < l.length ∧ S.ord.length ≤ 16384 from ⟨hlen, hq, hB.1, hord⟩)
  have asW := asrtW
  obtain ⟨bI, hbI⟩ : ∃ z : Int, z = (b : Int) := ⟨_, rfl⟩
  have HbI := hidb hbI
  rw [← hbI] at HPop
  clear h hs hq hord hR ok hlen hql hO hHp hB hx0 hx hb hbI
  go_enter Tryd.func39, Tryd.ntmps39
  go_wp2_with fail
  refine HPop.out.mono ?_
  rintro e w1 ⟨rfl, q1, hA1, hO1, hp1, hh1, hw1, hF1⟩
  have hl1 := hp1.length_eq
  have E1 := hidb (show FM w0 w1 base F LV FL l.length (.int .i64 (m : Int)) (.int .i64 (n : Int)) (.slice (some ⟨Lb, Lo, none⟩) l.length Lcap) Lv Fl vo S.ord (.slice (some ⟨g, 0, none⟩) n0 cap) (q1.take n0) ∧ Syn m l (stK m l S b 0) Lv Fl (q1.take n0) from ⟨HM.out.pop hA1 hO1 (by have := HL.out; omega) hh1 hF1, HTk.out q1 hp1 hw1⟩)
  clear hA1 hO1 hp1 hh1 hw1 hF1 hl1 HPop HTk HM
  generalize q1.take n0 = q2 at *
  have E2 : Hid (XT w0 (w1.alloc (.cells #[.int .i64 x, .int .i64 bI] 109)) base F LV FL l.length (.int .i64 (m : Int)) (.int .i64 (n : Int)) (.slice (some ⟨Lb, Lo, none⟩) l.length Lcap) Lv Fl vo S.ord (.slice (some ⟨g, 0, none⟩) n0 cap) q2 w1.heap.size (.int .i64 x) (.int .i64 bI)) := by
    have k1 := E1.out.1.f.lt
    have k2 := E1.out.1.lv.lt
    have k3 := E1.out.1.fl.lt
    refine ⟨E1.out.1.alloc _, At.new2 _ _ _ _, ⟨by omega, by omega, by omega⟩, fun e => ?_, E1.out.1.gr.out.size⟩
    have := (E1.out.1.rq.lt _ e).2
    omega
  have HY := hidb E1.out.2
  have HTo : Hid (vo.ownBlock ≠ some w1.heap.size) := fun e => by have := (E1.out.1.ro.lt _ e).2; omega
  obtain ⟨T, hT⟩ : ∃ z, z = w1.heap.size := ⟨_, rfl⟩
  go_upto_region 2 with fail
  rw [← hT] at E2 HTo ⊢
  generalize w1.alloc (.cells #[.int .i64 x, .int .i64 bI] 109) = w2 at *
  clear E1 hT
  go_cut [] from 18 to 28 (fun wx => ∃ vo', Hid (XT w0 wx base F LV FL l.length (.int .i64 (m : Int)) (.int .i64 (n : Int)) (.slice (some ⟨Lb, Lo, none⟩) l.length Lcap) Lv Fl vo' (S.ord ++ [b]) (.slice (some ⟨g, 0, none⟩) n0 cap) q2 T (.int .i64 x) (.int .i64 bI)))
  case first =>
    obtain ⟨-, -, c5, -⟩ := E2.out.m.c3
    obtain ⟨-, -, -, t1⟩ := E2.out.four
    have f5 : w2.frozen? ⟨F, 5, none⟩ = false := (E2.out.m.f.1 5 (by simp)).2
    have lF : F < w2.heap.size := E2.out.m.f.lt
    obtain ⟨ad1, cap1, rfl⟩ := own_shape1 E2.out.m.ro
    have HT0 := hidb (show T ≠ F from E2.out.n.1.1)
    have hno : Hid ((Value.slice ad1 S.ord.length cap1).ownBlock ≠ some F) := fun e2 => by have := (E2.out.m.ro.lt F e2).1; have := E2.out.m.b1; omega
    go_region_law (refine step_i2 _ base (.slice ad1 S.ord.length cap1) (on S.ord) bI S.ord.length w2.heap.size _ _ rfl rfl rfl rfl (by simp) (by have := HL.out; omega) (E2.out.m.ro.alloc _) (At.new1 _ _ _) (by have := E2.out.m.b1; simp; omega) ?_; intro gg cap2 w3 hown3 hgrow3 hat3; have HZ := hidb (show w3.ownsRow base 3 1 (.slice (some ⟨gg, 0, none⟩) (S.ord.length + 1) cap2) (S.ord.length + 1) (ir (on S.ord ++ [bI])) ∧ (w2.drew.alloc (.cells #[.int .i64 bI] 3)).grownBy w3 (Value.slice ad1 S.ord.length cap1).ownBlock ∧ ((Value.slice ad1 S.ord.length cap1).ownBlock = some gg ∨ (w2.drew.alloc (.cells #[.int .i64 bI] 3)).heap.size ≤ gg) from ⟨hown3, hgrow3, hat3.imp id (fun e => Nat.le_of_eq e.symm)⟩); have e5 := ((At.grow (E2.out.m.f.drew.alloc _) hgrow3 hno.out).1 5 (by simp)).1; have g5 := ((At.grow (E2.out.m.f.drew.alloc _) hgrow3 hno.out).1 5 (by simp)).2; clear hown3 hgrow3 hat3 c5 f5 t1)
    all_goals
      go_wp2_with fail
      go_meet
      refine ⟨.slice (some ⟨gg, 0, none⟩) (S.ord.length + 1) cap2, hidb ⟨?_, ?_, E2.out.n⟩⟩
      · rw [HbI.out] at HZ
        exact FM.order (E2.out.m.drew.alloc _) HZ.out.1 HZ.out.2.1 HZ.out.2.2
      · refine (At.grow (E2.out.t.drew.alloc _) HZ.out.2.1 (fun e => ?_)).skip (Ne.symm HT0.out) 5 _
        exact HTo.out e
  case rest =>
    obtain ⟨vo', E⟩ := hcut
    clear E2 HTo
    go_wp2
    go_loopw [29] (fun t wr => ∃ (k : Nat) (Lv' Fl' : List Int) (vq' : Value) (q' : List Wt), k ≤ 8 ∧ t = .int .i64 (k : Int) ∧ Hid (XT w0 wr base F LV FL l.length (.int .i64 (m : Int)) (.int .i64 (n : Int)) (.slice (some ⟨Lb, Lo, none⟩) l.length Lcap) Lv' Fl' vo' (S.ord ++ [b]) vq' q' T (.int .i64 x) (.int .i64 bI) ∧ Syn m l (stK m l S b k) Lv' Fl' q')) (fun t _ => 8 - (intOf t).toNat)
    case atStart => exact ⟨0, Lv, Fl, _, q2, Nat.zero_le _, rfl, hidb ⟨E.out, HY.out⟩⟩
    case round =>
      clear E HY
      obtain ⟨k, Lv', Fl', vq', q', hk, rfl, E⟩ := hrel
      by_cases h1 : k < 8
      · have h1' : (k : Int) < 8 := by omega
        have e1 : IntKind.i64.wrap ((k : Int) + 1) = ((k + 1 : Nat) : Int) := wrap_in (by omega) (by omega)
        have HNb := hidb (fun w => neighbour_any (m := m) (n := n) (some ⟨Lb, Lo, none⟩) l.length Lcap b k HOk.out.m1 HOk.out.m2 HOk.out.n2 (by have := HL.out; omega) (by have := HL.out; have := HOk.out.len_le; omega) hk w)
        rw [← HbI.out] at HNb
        have H1 := hidb h1
        have HE1 := hidb e1
        clear e1
        cases ho : nbO m n b k with
        | none =>
          have HSm := hidb (stK_same m n l S b k HOk.out.m1 HOk.out.len (fun o h => by rw [ho] at h; cases h))
          rw [ho] at HNb
          clear ho h1
          unfold nbA at HNb
          have PX := E.out.1
          go_upto_region 6 with fail
          go_cut [5, 6] from 32 to 42 (fun s5 s6 wx => s5 = .int .i64 0 ∧ s6 = .bool false ∧ Hid (Gr wr wx))
          case first =>
            have PG := Gr.refl wr
            go_region_held (fun w' => w'.cell? ⟨F, 0, none⟩ = some (.int .i64 (m : Int)) ∧ w'.cell? ⟨F, 1, none⟩ = some (.int .i64 (n : Int)) ∧ w'.cell? ⟨F, 2, none⟩ = some (.slice (some ⟨Lb, Lo, none⟩) l.length Lcap) ∧ w'.cell? ⟨T, 1, none⟩ = some (.int .i64 bI))
              (with_reducible first | exact PX.four | exact PX.drew.four)
              ((go_at_call 32; with_reducible refine (HNb.out _).mono ?_; rintro e w9 ⟨rfl, hB9⟩; (with_reducible first | replace PX := PX.below hB9.out | replace PX := PX.drew.below hB9.out); (with_reducible first | replace PG := Gr.step PG hB9.out | replace PG := Gr.step PG.drew hB9.out)))
            all_goals
              go_wp2_with fail
              go_meet
              exact ⟨rfl, rfl, by with_reducible first | exact hidb PG | exact hidb PG.drew⟩
          case rest =>
            obtain ⟨rfl, rfl, G⟩ := hcut
            have e1 := HE1.out
            go_wp2
            go_roundw
            case rel => exact ⟨k + 1, Lv', Fl', vq', q', H1.out, rfl, hidb ⟨E.out.1.below G.out.out, by rw [HSm.out]; exact E.out.2⟩⟩
            case measure => have := H1.out; simp [intOf]; omega
        | some oo =>
          have HO := hidb ho
          have HTc := hidb (nb_tch h1 ho)
          have hoo : oo < l.length := by rw [HOk.out.len]; exact HTc.out.2.1
          rw [ho] at HNb
          clear ho h1
          unfold nbA at HNb
          have PX := E.out.1
          obtain ⟨oI, hoI⟩ : ∃ z : Int, z = (oo : Int) := ⟨_, rfl⟩
          dsimp only at HNb
          rw [← hoI] at HNb
          have HoI := hidb hoI
          have Hoo := hidb hoo
          go_upto_region 6 with fail
          go_cut [5, 6] from 32 to 42 (fun s5 s6 wx => s5 = .int .i64 oI ∧ s6 = .bool true ∧ Hid (Gr wr wx))
          case first =>
            clear hoI hoo
            have PG := Gr.refl wr
            go_region_held (fun w' => w'.cell? ⟨F, 0, none⟩ = some (.int .i64 (m : Int)) ∧ w'.cell? ⟨F, 1, none⟩ = some (.int .i64 (n : Int)) ∧ w'.cell? ⟨F, 2, none⟩ = some (.slice (some ⟨Lb, Lo, none⟩) l.length Lcap) ∧ w'.cell? ⟨T, 1, none⟩ = some (.int .i64 bI))
              (with_reducible first | exact PX.four | exact PX.drew.four)
              ((go_at_call 32; with_reducible refine (HNb.out _).mono ?_; rintro e w9 ⟨rfl, hB9⟩; (with_reducible first | replace PX := PX.below hB9.out | replace PX := PX.drew.below hB9.out); (with_reducible first | replace PG := Gr.step PG hB9.out | replace PG := Gr.step PG.drew hB9.out)))
            all_goals
              go_wp2_with fail
              go_meet
              exact ⟨rfl, rfl, by with_reducible first | exact hidb PG | exact hidb PG.drew⟩
          case rest =>
            obtain ⟨rfl, rfl, G⟩ := hcut
            clear PX HNb
            have E2 := hidb (show XT w0 wc base F LV FL l.length (.int .i64 (m : Int)) (.int .i64 (n : Int)) (.slice (some ⟨Lb, Lo, none⟩) l.length Lcap) Lv' Fl' vo' (S.ord ++ [b]) vq' q' T (.int .i64 x) (.int .i64 bI) ∧ Syn m l (stK m l S b k) Lv' Fl' q' from ⟨E.out.1.below G.out.out, E.out.2⟩)
            clear E G
            have e1 := HE1.out
            obtain ⟨-, c4, -, -⟩ := E2.out.1.m.c3
            have ix := iindex FL 0 l.length l.length oo hoo
            rw [Nat.zero_add, ← hoI] at ix
            obtain ⟨d1, -⟩ := E2.out.1.m.fl.get (j := oo) (by rw [E2.out.1.m.ll.2]; exact hoo)
            rw [gl_get (by rw [E2.out.1.m.ll.2]; exact hoo), E2.out.2.fl oo hoo] at d1
            have HFl := hidb (flV_dry m (stK m l S b k) oo)
            rw [stK_st H1.out HO.out] at HFl
            generalize flV m (stK m l S b k) oo = fv at *
            clear hoI hoo
            by_cases hd : fv = -1
            · subst hd
              have HNw : Hid (S.st oo = 0) := HFl.out.1 rfl
              have ixL := iindex Lb Lo l.length Lcap oo Hoo.out
              rw [← HoI.out] at ixL
              obtain ⟨z, hz, hmx⟩ : ∃ z, z = up1 (gl l oo) x ∧ max (gl l oo) x = z := ⟨_, rfl, max_up1 _ _⟩
              have HZ := hidb hz
              clear hz
              have HOp := hidb (fun w => opposite_any k H1.out w)
              have HWt := hidb (fun W (M : FM w0 W base F LV FL l.length (.int .i64 (m : Int)) (.int .i64 (n : Int)) (.slice (some ⟨Lb, Lo, none⟩) l.length Lcap) Lv' Fl' vo' (S.ord ++ [b]) vq' q') => wait_any oo z (((k + 4) % 8 : Nat) : Int) W M Hoo.out (by have := E2.out.2.len; have := HL.out; omega))
              rw [← HoI.out] at HWt
              obtain ⟨dd, hdd⟩ : ∃ zz : Int, zz = (((k + 4) % 8 : Nat) : Int) := ⟨_, rfl⟩
              rw [← hdd] at HOp HWt
              have Hdd := hidb hdd
              clear hdd
              go_upto_region 8 with fail
              have PX := E2.out.1
              have PK := PX.three HR.out Hoo.out
              have KP : ∀ W, XT w0 W base F LV FL l.length (.int .i64 (m : Int)) (.int .i64 (n : Int)) (.slice (some ⟨Lb, Lo, none⟩) l.length Lcap) Lv' Fl' vo' (S.ord ++ [b]) vq' q' T (.int .i64 x) (.int .i64 bI) → W.cell? ⟨F, 2, none⟩ = some (.slice (some ⟨Lb, Lo, none⟩) l.length Lcap) ∧ W.cell? ⟨Lb, Lo + oo, none⟩ = some (.int .i64 (gl l oo)) ∧ W.cell? ⟨T, 0, none⟩ = some (.int .i64 x) := fun W X => X.three HR.out Hoo.out
              have HKP := hidb KP
              clear KP PK
              go_region_held (fun w' => w'.cell? ⟨F, 2, none⟩ = some (.slice (some ⟨Lb, Lo, none⟩) l.length Lcap) ∧ w'.cell? ⟨Lb, Lo + oo, none⟩ = some (.int .i64 (gl l oo)) ∧ w'.cell? ⟨T, 0, none⟩ = some (.int .i64 x))
                (with_reducible first | exact HKP.out _ PX | exact HKP.out _ PX.drew | exact PX.three HR.out Hoo.out | exact PX.drew.three HR.out Hoo.out)
                ((first | (go_at_call 52; with_reducible refine (HOp.out _).mono ?_; rintro e w9 ⟨rfl, rfl⟩) | (go_at_call 37; (with_reducible first | refine (HWt.out _ PX.m).mono ?_ | refine (HWt.out _ PX.drew.m).mono ?_); rintro e w9 ⟨rfl, vq2, q2', hM9, hp9, hO9⟩; have PXt := PX.t; have PXn := PX.n; replace PX : XT w0 w9 base F LV FL l.length (.int .i64 (m : Int)) (.int .i64 (n : Int)) (.slice (some ⟨Lb, Lo, none⟩) l.length Lcap) (Lv'.set oo z) (Fl'.set oo dd) vo' (S.ord ++ [b]) vq2 q2' T (.int .i64 x) (.int .i64 bI) := ⟨hM9, (hO9 T _ PXt PXn.1 PXn.2.1).1, PXn.1, (hO9 T _ PXt PXn.1 PXn.2.1).2, PXn.2.2⟩)))
              all_goals
                have E3 : Hid (XT w0 w9 base F LV FL l.length (.int .i64 (m : Int)) (.int .i64 (n : Int)) (.slice (some ⟨Lb, Lo, none⟩) l.length Lcap) (Lv'.set oo z) (Fl'.set oo dd) vo' (S.ord ++ [b]) vq2 q2' T (.int .i64 x) (.int .i64 bI)) := PX
                have HSy := hidb (Syn.new m n l E2.out.2 E2.out.1.m.ll HOk.out.m1 HOk.out.len H1.out HO.out HNw.out (by rw [HZ.out, HX.out]) hp9)
                rw [← Hdd.out] at HSy
                clear E2 PX hM9 hp9 hO9 PXt PXn
                go_wp2
                go_roundw
              all_goals first
                | (case rel => exact ⟨k + 1, _, _, vq2, q2', H1.out, rfl, hidb ⟨by with_reducible first | exact E3.out | exact E3.out.drew, HSy.out⟩⟩)
                | (case measure => have := H1.out; simp [intOf]; omega)
            · have HSm := hidb (stK_same m n l S b k HOk.out.m1 HOk.out.len (fun o h => by rw [HO.out] at h; obtain rfl := Option.some.inj h; exact fun e => hd (HFl.out.2 e)))
              go_wp2
              go_roundw
              case rel => exact ⟨k + 1, Lv', Fl', vq', q', H1.out, rfl, hidb ⟨E2.out.1, by rw [HSm.out]; exact E2.out.2⟩⟩
              case measure => have := H1.out; simp [intOf]; omega
      · have hk8 : k = 8 := by omega
        subst hk8
        have HF := hidb (show ∃ b Lv' Fl' vo' vq' q', isB S l.length b ∧ FM w0 wr base F LV FL l.length (.int .i64 (m : Int)) (.int .i64 (n : Int)) (.slice (some ⟨Lb, Lo, none⟩) l.length Lcap) Lv' Fl' vo' (S.ord ++ [b]) vq' q' ∧ Syn m l (stepF m l S b) Lv' Fl' q' from ⟨b, Lv', Fl', vo', vq', q', HB.out, E.out.1.m, by rw [← stK_8 m n l S b HOk.out.m1 HOk.out.len]; exact E.out.2⟩)
        go_wp2
        exact bodyPost_end (results_none rfl _ _ _) rfl ⟨rfl, HF.out⟩
end Go.Proofs.YtlhligeicnejbaaDoor
