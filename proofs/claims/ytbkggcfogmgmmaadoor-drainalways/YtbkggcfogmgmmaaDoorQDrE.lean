/-
  A flood in memory; drain.flood's wait.
-/
import Derived.Test.YtbkggcfogmgmmaaDoorQJ4
import Derived.Test.YtbkggcfogmgmmaaDoorQHqG
import Derived.Lib.MinMax
namespace Go.Proofs.YtbkggcfogmgmmaaDoor
open Go.RowKit

abbrev on (l : List Nat) : List Int := l.map Int.ofNat
/-- A flood in memory, made since w0: its block F, the rows of heights LV and of directions FL, the order and the queue. -/
structure FM (w0 w : World) (base F LV FL N : Nat) (a b c : Value) (Lv Fl : List Int) (vo : Value) (ord : List Nat) (vq : Value) (q : List Wt) : Prop where
  gr : Gr w0 w
  f : At w F [a, b, c, .slice (some ⟨LV, 0, none⟩) N N, .slice (some ⟨FL, 0, none⟩) N N, vo, vq]
  lv : At w LV (ir Lv)
  fl : At w FL (ir Fl)
  ll : Lv.length = N ∧ Fl.length = N
  ro : w.ownsRow base 3 1 vo ord.length (ir (on ord))
  rq : w.ownsRow base 122 2 vq q.length (qr q)
  hp : Hp q q.length
  b1 : (w0.heap.size ≤ F ∧ w0.heap.size ≤ LV ∧ w0.heap.size ≤ FL) ∧ (F < base ∧ LV < base ∧ FL < base) ∧ base ≤ w.heap.size ∧ w0.heap.size ≤ base
  b2 : F ≠ LV ∧ F ≠ FL ∧ LV ≠ FL
  dis : ∀ k, vo.ownBlock = some k → vq.ownBlock ≠ some k
section
variable {w0 w : World} {base F LV FL N : Nat} {a b c : Value} {Lv Fl : List Int} {vo : Value} {ord : List Nat} {vq : Value} {q : List Wt}
theorem FM.below {w' : World} (h : FM w0 w base F LV FL N a b c Lv Fl vo ord vq q) (hB : Below w.heap.size w w') : FM w0 w' base F LV FL N a b c Lv Fl vo ord vq q :=
  ⟨Gr.step h.gr hB, At.below hB h.f, At.below hB h.lv, At.below hB h.fl, h.ll, own_keep h.ro hB, own_keep h.rq hB, h.hp, ⟨h.b1.1, h.b1.2.1, Nat.le_trans h.b1.2.2.1 hB.size, h.b1.2.2.2⟩, h.b2, h.dis⟩
theorem FM.drew (h : FM w0 w base F LV FL N a b c Lv Fl vo ord vq q) : FM w0 w.drew base F LV FL N a b c Lv Fl vo ord vq q :=
  ⟨h.gr.drew, h.f, h.lv, h.fl, h.ll, h.ro, h.rq, h.hp, h.b1, h.b2, h.dis⟩
theorem FM.alloc (h : FM w0 w base F LV FL N a b c Lv Fl vo ord vq q) (o : Obj) : FM w0 (w.alloc o) base F LV FL N a b c Lv Fl vo ord vq q := h.below ((Below.refl _ _).alloc (Nat.le_refl _) o)
theorem ir_set (L : List Int) (i : Nat) (x : Int) : (ir L).set i (.int .i64 x) = ir (L.set i x) := by simp [ir]
theorem FM.store (h : FM w0 w base F LV FL N a b c Lv Fl vo ord vq q) (i : Nat) (x y : Int) : FM w0 ((w.setCell ⟨LV, i, none⟩ (.int .i64 x)).setCell ⟨FL, i, none⟩ (.int .i64 y)) base F LV FL N a b c (Lv.set i x) (Fl.set i y) vo ord vq q := by
  obtain ⟨⟨p1, p2, p3⟩, ⟨p4, p5, p6⟩, p7, p8⟩ := h.b1
  obtain ⟨n1, n2, n3⟩ := h.b2
  refine ⟨(h.gr.set p2 i _).set p3 i _, (h.f.skip (Ne.symm n1) i _).skip (Ne.symm n2) i _, ?_, ?_, by simpa using h.ll, own_set (own_set h.ro p5 i _) p6 i _, own_set (own_set h.rq p5 i _) p6 i _, h.hp, ⟨⟨p1, p2, p3⟩, ⟨p4, p5, p6⟩, by simpa using p7, p8⟩, h.b2, h.dis⟩
  · rw [← ir_set]; exact (h.lv.put i _).skip (Ne.symm n3) i _
  · rw [← ir_set]; exact (h.fl.skip n3 i _).put i _
theorem FM.push {w' : World} {g cap : Nat} {q' : List Wt} {n : Nat} (h : FM w0 w base F LV FL N a b c Lv Fl vo ord vq q) (hf : At w' F [a, b, c, .slice (some ⟨LV, 0, none⟩) N N, .slice (some ⟨FL, 0, none⟩) N N, vo, .slice (some ⟨g, 0, none⟩) n cap]) (hO : OW w' base g cap q') (hn : q'.length = n) (hp : Hp q' n) (hF : Fr F vq w w') (hg : vq.ownBlock = some g ∨ w.heap.size ≤ g) : FM w0 w' base F LV FL N a b c Lv Fl vo ord (.slice (some ⟨g, 0, none⟩) n cap) q' := by
  obtain ⟨⟨p1, p2, p3⟩, ⟨p4, p5, p6⟩, p7, p8⟩ := h.b1
  obtain ⟨n1, n2, n3⟩ := h.b2
  have hq : ∀ k, k < base → vq.ownBlock ≠ some k := fun k hk e => by have := (h.rq.lt k e).1; omega
  have ho : ∀ k, vo.ownBlock = some k → k < w.heap.size ∧ base ≤ k := fun k e => ⟨(h.ro.lt k e).2, (h.ro.lt k e).1⟩
  refine ⟨hF.gr h.gr p1 (fun i e => by have := (h.rq.lt i e).1; omega), hf, h.lv.fr hF (Ne.symm n1) (hq _ p5), h.fl.fr hF (Ne.symm n2) (hq _ p6), h.ll, ?_, by subst hn; exact hO, by subst hn; exact hp, ⟨⟨p1, p2, p3⟩, ⟨p4, p5, p6⟩, Nat.le_trans p7 hF.size, p8⟩, h.b2, ?_⟩
  · obtain ⟨h1, h2⟩ := h.ro
    refine ⟨h1, ?_⟩
    rcases h2 with h2 | ⟨g', cap', cur, hv, h3, h4, h5⟩
    · exact .inl h2
    · have e : vo.ownBlock = some g' := by rw [hv]; rfl
      exact .inr ⟨g', cap', cur, hv, h3, (hF.block g' (ho g' e).1 (by omega) (h.dis g' e)).trans h4, h5⟩
  · intro k hk e
    have e' : g = k := by simpa [Value.ownBlock] using e
    rcases hg with hg | hg
    · exact h.dis k hk (by rw [hg, e'])
    · have := (ho k hk).1; omega
theorem FM.c3 (h : FM w0 w base F LV FL N a b c Lv Fl vo ord vq q) : w.cell? ⟨F, 3, none⟩ = some (.slice (some ⟨LV, 0, none⟩) N N) ∧ w.cell? ⟨F, 4, none⟩ = some (.slice (some ⟨FL, 0, none⟩) N N) ∧ w.cell? ⟨F, 5, none⟩ = some vo ∧ w.cell? ⟨F, 6, none⟩ = some vq := ⟨(h.f.1 3 (by simp)).1, (h.f.1 4 (by simp)).1, (h.f.1 5 (by simp)).1, (h.f.1 6 (by simp)).1⟩
end
/-- Blocks of others stay as they are. -/
def Oth (w w' : World) (F LV FL : Nat) (vq vq' : Value) : Prop := ∀ B L, At w B L → B ≠ F ∧ B ≠ LV ∧ B ≠ FL → vq.ownBlock ≠ some B → At w' B L ∧ vq'.ownBlock ≠ some B
set_option maxRecDepth 4000 in
set_option maxHeartbeats 8000000 in
theorem wait_any {w0 : World} {base F LV FL N : Nat} {a b c : Value} {Lv Fl : List Int} {vo : Value} {ord : List Nat} {vq : Value} {q : List Wt} (k : Nat) (x y : Int) (w : World) (h : FM w0 w base F LV FL N a b c Lv Fl vo ord vq q) (hk : k < N) (hn : q.length ≤ 20000) : Calls Tryd.prog 62 #[.pointer (some ⟨F, 0, none⟩), .int .i64 (k : Int), .int .i64 x, .int .i64 y] w fun e w' => e = .returned (.tuple #[]) ∧ ∃ vq' q', FM w0 w' base F LV FL N a b c (Lv.set k x) (Fl.set k y) vo ord vq' q' ∧ q'.Perm (q ++ [(x, k)]) ∧ Oth w w' F LV FL vq vq' := by
  obtain ⟨c3, c4, -, -⟩ := h.c3
  have ix := iindex LV 0 N N k hk
  have jx := iindex FL 0 N N k hk
  rw [Nat.zero_add] at ix jx
  obtain ⟨d1, f1⟩ := h.lv.get (j := k) (by rw [h.ll.1]; exact hk)
  obtain ⟨d2, f2⟩ := h.fl.get (j := k) (by rw [h.ll.2]; exact hk)
  generalize Lv[k]'(by rw [h.ll.1]; exact hk) = z1 at d1
  generalize Fl[k]'(by rw [h.ll.2]; exact hk) = z2 at d2
  obtain ⟨n1, n2, n3⟩ := h.b2
  have n3' : ¬ LV = FL := n3
  have n4' : ¬ FL = LV := fun e => n3 e.symm
  have m1 : ¬ F = LV := n1
  have m2 : ¬ F = FL := n2
  have m3 : ¬ LV = F := fun e => n1 e.symm
  have m4 : ¬ FL = F := fun e => n2 e.symm
  have HS : Hid (FM w0 ((w.setCell ⟨LV, k, none⟩ (.int .i64 x)).setCell ⟨FL, k, none⟩ (.int .i64 y)) base F LV FL N a b c (Lv.set k x) (Fl.set k y) vo ord vq q ∧ (∀ B L, At w B L → B ≠ F ∧ B ≠ LV ∧ B ≠ FL → At ((w.setCell ⟨LV, k, none⟩ (.int .i64 x)).setCell ⟨FL, k, none⟩ (.int .i64 y)) B L)) := ⟨h.store k x y, fun B L hB hne => (hB.skip (Ne.symm hne.2.1) k _).skip (Ne.symm hne.2.2) k _⟩
  have HK := hidb hn
  have HP := hidb (fun w' (E : FM w0 w' base F LV FL N a b c (Lv.set k x) (Fl.set k y) vo ord vq q) => hpush_any (x, k) w' E.f E.rq rfl hn E.b1.2.1.1 E.b1.2.2.1 E.hp)
  dsimp only at HP
  obtain ⟨kI, hkI⟩ : ∃ z : Int, z = (k : Int) := ⟨_, rfl⟩
  rw [← hkI] at ix jx HP ⊢
  clear h hn n1 n2 n3 hkI hk
  go_enter Tryd.func62, Tryd.ntmps62
  go_upto_region 0 with fail
  go_cut [] from 8 to 21 (fun wx => Hid (FM w0 wx base F LV FL N a b c (Lv.set k x) (Fl.set k y) vo ord vq q ∧ (∀ B L, At w B L → B ≠ F ∧ B ≠ LV ∧ B ≠ FL → At wx B L)))
  case first =>
    go_region_law (fail)
    all_goals
      go_wp2_with fail
      go_meet
      with_reducible first | exact HS | exact hidb ⟨HS.out.1.drew, fun B L hB hne => (HS.out.2 B L hB hne).drew⟩
  case rest =>
    clear HS
    have E := hcut
    go_wp2_with fail
    refine (HP.out _ E.out.1).mono ?_
    rintro e w2 ⟨rfl, g, cap, q', hA2, hO2, hp2, hh2, hF2, hg2⟩
    have hl2 := hp2.length_eq
    have HM := hidb (show ∃ vq' q', FM w0 w2 base F LV FL N a b c (Lv.set k x) (Fl.set k y) vo ord vq' q' ∧ q'.Perm (q ++ [(x, k)]) ∧ Oth w w2 F LV FL vq vq' from ⟨_, q', E.out.1.push hA2 hO2 (by rw [hl2]; simp) hh2 hF2 hg2, hp2, fun B L hB hne hv => ⟨(E.out.2 B L hB hne).fr hF2 hne.1 hv, fun e => by
      have e' : g = B := by simpa [Value.ownBlock] using e
      rcases hg2 with h2 | h2
      · exact hv (by rw [h2, e'])
      · have := (E.out.2 B L hB hne).lt; omega⟩⟩)
    clear hA2 hO2 hp2 hh2 hF2 hg2 hl2
    go_wp2
    exact bodyPost_end (results_none rfl _ _ _) rfl ⟨rfl, HM.out⟩
end Go.Proofs.YtbkggcfogmgmmaaDoor
