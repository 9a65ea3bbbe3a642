/-
  A flood in memory and the flood as it should be: one step, direction by direction. No Go text.; drain.flood's take.
-/
import Derived.Test.YtbkggcfogmgmmaaDoorQJ3
import Derived.Test.YtbkggcfogmgmmaaDoorQDrE
namespace Go.Proofs.YtbkggcfogmgmmaaDoor
open Go.RowKit

section
variable (m n : Nat) (l : List Int)
/-- A cell's direction as it is kept: -1 where it does not wait yet. -/
def flV (S : FS) (i : Nat) : Int := if S.st i = 0 then -1 else (wyD m i (S.tw i) : Int)
/-- What lies in memory is the flood. -/
structure Syn (S : FS) (Lv Fl : List Int) (q : List Wt) : Prop where
  lv : ∀ i, i < l.length → gl Lv i = S.fi i
  fl : ∀ i, i < l.length → gl Fl i = flV m S i
  mem : ∀ p, p ∈ q ↔ S.st p.2 = 1 ∧ p.1 = S.fi p.2
  nd : q.Nodup
  lt : ∀ i, S.st i ≠ 0 → i < l.length
theorem Syn.perm {S : FS} {Lv Fl : List Int} {q q' : List Wt} (h : Syn m l S Lv Fl q) (hp : q'.Perm q) : Syn m l S Lv Fl q' :=
  ⟨h.lv, h.fl, fun p => (hp.mem_iff).trans (h.mem p), hp.nodup_iff.2 h.nd, h.lt⟩
theorem Syn.len {S : FS} {Lv Fl : List Int} {q : List Wt} (h : Syn m l S Lv Fl q) : q.length ≤ l.length := by
  have : (q.map Prod.snd).Nodup := by
    refine List.Pairwise.map _ (R := fun a b => a ∈ q ∧ b ∈ q ∧ a ≠ b) ?_ (List.Pairwise.imp_of_mem (fun ha hb h => ⟨ha, hb, h⟩) h.nd)
    rintro ⟨a1, a2⟩ ⟨b1, b2⟩ ⟨ha, hb, hne⟩ e
    simp only at e
    subst e
    have h1 := ((h.mem _).1 ha).2
    have h2 := ((h.mem _).1 hb).2
    simp only at h1 h2
    exact hne (by rw [h1, h2])
  have := nodup_len this (N := l.length) (fun i hi => by
    obtain ⟨p, hp, rfl⟩ := List.mem_map.1 hi
    exact h.lt _ (by have := ((h.mem p).1 hp).1; omega))
  simpa using this
theorem Syn.best {S : FS} {Lv Fl : List Int} {q : List Wt} (h : Syn m l S Lv Fl q) {n0 : Nat} (hq : q.length = n0 + 1) (hp : Hp q (n0 + 1)) : isB S l.length (wx q 0).2 ∧ (wx q 0).1 = S.fi (wx q 0).2 := by
  have hm : wx q 0 ∈ q := by rw [← wx_get (show 0 < q.length by omega)]; exact List.getElem_mem _
  have h0 := (h.mem _).1 hm
  refine ⟨⟨h.lt _ (by omega), h0.1, fun i hi hs => ?_⟩, h0.2⟩
  have hi' : (S.fi i, i) ∈ q := (h.mem _).2 ⟨hs, rfl⟩
  obtain ⟨j, hj, e⟩ := List.getElem_of_mem hi'
  rw [wx_get hj] at e
  have := hp.root j (by omega)
  rw [e] at this
  rw [← h0.2]
  exact this
/-- The step, as far as the first k directions. -/
def NwK (S : FS) (b k i : Nat) : Prop := New m l S b i ∧ wyD m b i < k
instance (S : FS) (b k i : Nat) : Decidable (NwK m l S b k i) := by unfold NwK; exact inferInstance
def stK (S : FS) (b k : Nat) : FS :=
  ⟨fun i => if i = b then 2 else if NwK m l S b k i then 1 else S.st i, fun i => if NwK m l S b k i then up1 (gl l i) (S.fi b) else S.fi i, fun i => if NwK m l S b k i then b else S.tw i, S.ord ++ [b]⟩
theorem stK_8 (S : FS) (b : Nat) (hm : 1 ≤ m) (hl : l.length = m * n) : stK m l S b 8 = stepF m l S b := by
  have e : ∀ i, NwK m l S b 8 i ↔ New m l S b i := fun i => ⟨fun h => h.1, fun h => ⟨h, (tch_nb (n := n) hm h.2.2 (by rw [← hl]; exact h.1)).1⟩⟩
  unfold stK stepF
  simp only [e]
theorem stK_0 (S : FS) (b i : Nat) : ¬ NwK m l S b 0 i := fun h => by have := h.2; omega
theorem NwK_succ (S : FS) (b k i : Nat) : NwK m l S b (k + 1) i ↔ NwK m l S b k i ∨ (New m l S b i ∧ wyD m b i = k) := by
  unfold NwK
  constructor
  · intro ⟨h1, h2⟩
    by_cases c : wyD m b i = k
    · exact .inr ⟨h1, c⟩
    · exact .inl ⟨h1, by omega⟩
  · rintro (⟨h1, h2⟩ | ⟨h1, h2⟩)
    · exact ⟨h1, by omega⟩
    · exact ⟨h1, by omega⟩
theorem fs_ext {S T : FS} (h1 : ∀ i, S.st i = T.st i) (h2 : ∀ i, S.fi i = T.fi i) (h3 : ∀ i, S.tw i = T.tw i) (h4 : S.ord = T.ord) : S = T := by
  obtain ⟨a, b, c, d⟩ := S
  obtain ⟨a', b', c', d'⟩ := T
  obtain rfl : a = a' := funext h1
  obtain rfl : b = b' := funext h2
  obtain rfl : c = c' := funext h3
  obtain rfl : d = d' := h4
  rfl
/-- Where there is no neighbour in that direction, or it is no new one, nothing changes. -/
theorem stK_same (S : FS) (b k : Nat) (hm : 1 ≤ m) (hl : l.length = m * n) (hk : ∀ o, nbO m n b k = some o → S.st o ≠ 0) : stK m l S b (k + 1) = stK m l S b k := by
  have e : ∀ i, NwK m l S b (k + 1) i ↔ NwK m l S b k i := fun i => by
    rw [NwK_succ]
    refine ⟨fun h => h.elim id (fun h => ?_), .inl⟩
    have := (tch_nb (n := n) hm h.1.2.2 (by rw [← hl]; exact h.1.1)).2
    rw [h.2] at this
    exact absurd h.1.2.1 (hk i this)
  unfold stK
  simp only [e]
/-- Else the neighbour comes to wait. -/
theorem stK_new (S : FS) (b k o : Nat) (hm : 1 ≤ m) (hl : l.length = m * n) (hk : k < 8) (ho : nbO m n b k = some o) (hs : S.st o = 0) :
    (∀ i, NwK m l S b (k + 1) i ↔ NwK m l S b k i ∨ i = o) ∧ ¬ NwK m l S b k o ∧ o < l.length ∧ o ≠ b ∧ wyD m o b = (k + 4) % 8 := by
  obtain ⟨t1, t2, t3, t4⟩ := nb_tch hk ho
  have hN : New m l S b o := ⟨by rw [hl]; exact t2, hs, t1⟩
  refine ⟨fun i => ?_, fun h => by have := h.2; omega, by rw [hl]; exact t2, fun e => t1.1 e.symm, t3⟩
  rw [NwK_succ]
  constructor
  · rintro (h | h)
    · exact .inl h
    · have := (tch_nb (n := n) hm h.1.2.2 (by rw [← hl]; exact h.1.1)).2
      rw [h.2, ho] at this
      exact .inr (Option.some.inj this).symm
  · rintro (h | rfl)
    · exact .inl h
    · exact .inr ⟨hN, t4⟩
theorem gl_set {L : List Int} {i : Nat} (h : i < L.length) (x : Int) (k : Nat) : gl (L.set i x) k = if k = i then x else gl L k := by
  unfold gl
  rw [List.getD_eq_getElem?_getD, List.getElem?_set, List.getD_eq_getElem?_getD]
  by_cases c : i = k
  · subst c; simp [h]
  · rw [if_neg c, if_neg (fun e => c e.symm)]
theorem Syn.new {S : FS} {Lv Fl : List Int} {q q' : List Wt} {b k o : Nat} {x : Int} (h : Syn m l (stK m l S b k) Lv Fl q) (hL : Lv.length = l.length ∧ Fl.length = l.length) (hm : 1 ≤ m) (hl : l.length = m * n) (hk : k < 8) (ho : nbO m n b k = some o) (hs : S.st o = 0) (hx : x = up1 (gl l o) (S.fi b)) (hp : q'.Perm (q ++ [(x, o)])) : Syn m l (stK m l S b (k + 1)) (Lv.set o x) (Fl.set o (((k + 4) % 8 : Nat) : Int)) q' := by
  obtain ⟨e, hno, hol, hob, hwy⟩ := stK_new m n l S b k o hm hl hk ho hs
  have s1 : ∀ i, (stK m l S b (k + 1)).st i = if i = o then 1 else (stK m l S b k).st i := fun i => by
    show (if i = b then 2 else if NwK m l S b (k + 1) i then 1 else S.st i) = if i = o then 1 else (if i = b then 2 else if NwK m l S b k i then 1 else S.st i)
    by_cases c : i = o
    · subst c; rw [if_neg hob, if_pos ((e i).2 (.inr rfl)), if_pos rfl]
    · rw [if_neg c]
      by_cases d : NwK m l S b k i
      · rw [if_pos ((e i).2 (.inl d)), if_pos d]
      · rw [if_neg (fun h => ((e i).1 h).elim d c), if_neg d]
  have s2 : ∀ i, (stK m l S b (k + 1)).fi i = if i = o then x else (stK m l S b k).fi i := fun i => by
    show (if NwK m l S b (k + 1) i then up1 (gl l i) (S.fi b) else S.fi i) = if i = o then x else (if NwK m l S b k i then up1 (gl l i) (S.fi b) else S.fi i)
    by_cases c : i = o
    · subst c; rw [if_pos ((e i).2 (.inr rfl)), if_pos rfl, hx]
    · rw [if_neg c]
      by_cases d : NwK m l S b k i
      · rw [if_pos ((e i).2 (.inl d)), if_pos d]
      · rw [if_neg (fun h => ((e i).1 h).elim d c), if_neg d]
  have s3 : ∀ i, (stK m l S b (k + 1)).tw i = if i = o then b else (stK m l S b k).tw i := fun i => by
    show (if NwK m l S b (k + 1) i then b else S.tw i) = if i = o then b else (if NwK m l S b k i then b else S.tw i)
    by_cases c : i = o
    · subst c; rw [if_pos ((e i).2 (.inr rfl)), if_pos rfl]
    · rw [if_neg c]
      by_cases d : NwK m l S b k i
      · rw [if_pos ((e i).2 (.inl d)), if_pos d]
      · rw [if_neg (fun h => ((e i).1 h).elim d c), if_neg d]
  have hst : (stK m l S b k).st o = 0 := by
    show (if o = b then 2 else if NwK m l S b k o then 1 else S.st o) = 0
    rw [if_neg hob, if_neg hno]; exact hs
  have hno' : ∀ y, (y, o) ∉ q := fun y hy => by have := ((h.mem _).1 hy).1; simp only at this; omega
  refine ⟨fun i hi => ?_, fun i hi => ?_, fun p => ?_, ?_, fun i hi => ?_⟩
  · rw [gl_set (by rw [hL.1]; exact hol), s2]
    split
    · rfl
    · exact h.lv i hi
  · rw [gl_set (by rw [hL.2]; exact hol)]
    unfold flV
    rw [s1, s3]
    by_cases c : i = o
    · subst c
      simp only [if_true, if_neg (show ¬ (1 : Nat) = 0 by omega)]
      rw [hwy]
    · rw [if_neg c, if_neg c, if_neg c]
      exact h.fl i hi
  · rw [hp.mem_iff, List.mem_append, List.mem_singleton, h.mem, s1, s2]
    obtain ⟨p1, p2⟩ := p
    simp only
    by_cases c : p2 = o
    · subst c
      rw [if_pos rfl, if_pos rfl]
      constructor
      · rintro (⟨h1, h2⟩ | h1)
        · omega
        · exact ⟨rfl, (Prod.mk.inj h1).1⟩
      · intro ⟨_, h2⟩
        exact .inr (by rw [h2])
    · rw [if_neg c, if_neg c]
      constructor
      · rintro (h1 | h1)
        · exact h1
        · exact absurd (Prod.mk.inj h1).2 c
      · exact .inl
  · refine hp.nodup_iff.2 (List.nodup_append.2 ⟨h.nd, List.pairwise_singleton _ _, fun y hy z hz hyz => ?_⟩)
    rw [List.mem_singleton.1 hz] at hyz
    rw [hyz] at hy
    exact hno' _ hy
  · rw [s1] at hi
    by_cases c : i = o
    · rw [c]; exact hol
    · rw [if_neg c] at hi; exact h.lt i hi
/-- One is taken off the queue. -/
theorem Syn.take {S : FS} {Lv Fl : List Int} {q q' : List Wt} {n0 : Nat} (h : Syn m l S Lv Fl q) (hq : q.length = n0 + 1) (hp : q'.Perm q) (hw : wx q' n0 = wx q 0) (hst : S.st (wx q 0).2 = 1) : Syn m l (stK m l S (wx q 0).2 0) Lv Fl (q'.take n0) := by
  obtain ⟨d1, d2⟩ := perm_drop hp hq h.nd
  rw [hw] at d2
  have hm : wx q 0 ∈ q := by rw [← wx_get (show 0 < q.length by omega)]; exact List.getElem_mem _
  have h0 := (h.mem _).1 hm
  have s1 : ∀ i, (stK m l S (wx q 0).2 0).st i = if i = (wx q 0).2 then 2 else S.st i := fun i => by
    show (if i = (wx q 0).2 then 2 else if NwK m l S (wx q 0).2 0 i then 1 else S.st i) = _
    rw [if_neg (stK_0 m l S _ i)]
  have s2 : ∀ i, (stK m l S (wx q 0).2 0).fi i = S.fi i := fun i => if_neg (stK_0 m l S _ i)
  have s3 : ∀ i, (stK m l S (wx q 0).2 0).tw i = S.tw i := fun i => if_neg (stK_0 m l S _ i)
  refine ⟨fun i hi => by rw [s2]; exact h.lv i hi, fun i hi => ?_, fun p => ?_, d1, fun i hi => ?_⟩
  · rw [h.fl i hi]
    unfold flV
    rw [s1, s3]
    by_cases c : i = (wx q 0).2
    · rw [if_pos c, c, hst]; rfl
    · rw [if_neg c]
  · rw [d2, h.mem, s1, s2]
    constructor
    · intro ⟨⟨h1, h2⟩, h3⟩
      have c : p.2 ≠ (wx q 0).2 := fun e => h3 (Prod.ext (by rw [h2, h0.2, e]) e)
      rw [if_neg c]
      exact ⟨h1, h2⟩
    · intro ⟨h1, h2⟩
      by_cases c : p.2 = (wx q 0).2
      · rw [if_pos c] at h1; omega
      · rw [if_neg c] at h1
        exact ⟨⟨h1, h2⟩, fun e => c (by rw [e])⟩
  · rw [s1] at hi
    by_cases c : i = (wx q 0).2
    · rw [c]; exact h.lt _ (by omega)
    · rw [if_neg c] at hi; exact h.lt i hi
end
end Go.Proofs.YtbkggcfogmgmmaaDoor
namespace Go.Proofs.YtbkggcfogmgmmaaDoor
open Go.RowKit
attribute [local go_sem ↓] Go.wp_at_zero Go.wp_at_succ

/-- An append to a row of whole numbers, at a step of a region that draws its order; where the row lies behind it. -/
theorem step_i2 {ops : Array Oper} {o : Oper} {a : Act} {K : Act → World → Prop} {Q : Exit → Act → World → Prop} {Ep : Prop} (W : World) (b0 : Nat) (v : Value) (l : List Int) (r : Int) (n B : Nat) (s x : Operand) (hgd : o.guard = none)
    (ho : o.op = .call { callee := .builtin .append, args := #[s, x], argTypes := #[25, 25] }) (hs : a.eval s = v) (hx : a.eval x = .slice (some ⟨B, 0, none⟩) 1 1) (hn : l.length = n) (hl : n ≤ 20000)
    (hO : W.ownsRow b0 3 1 v n (ir l)) (hN : At W B [.int .i64 r]) (hb : b0 ≤ W.heap.size)
    (h : ∀ g cap w', w'.ownsRow b0 3 1 (.slice (some ⟨g, 0, none⟩) (n + 1) cap) (n + 1) (ir (l ++ [r])) → W.grownBy w' v.ownBlock → (v.ownBlock = some g ∨ g = W.heap.size) → K (a.put o.dst (.slice (some ⟨g, 0, none⟩) (n + 1) cap)) w') :
    if Region.wanted o (yielded ops a.tmps) = true then Oper.wp Tryd.prog o a W K Q else Ep := by
  have hml : 30000 ≤ maxLen := by decide
  obtain ⟨i0, hi, hz0, hz1, hz2⟩ := info_parts infoJ
  refine step_append_lies W hgd s x _ ho b0 _ i0 (.int .i64 0) 1 8 undI hi hz0 hz1 hz2 rfl (by decide) v n (ir l) hs hO ⟨B, 0, none⟩ 1 1 [.int .i64 r] hx rfl ?_ ?_ (by decide) (by omega) (by omega) hb _ rfl ?_
  · intro j u hu
    match j with
    | 0 => simp at hu; subst hu; exact (hN.1 0 (by simp)).1
    | j + 1 => simp at hu
  · intro u hu; simp at hu; subst hu; rfl
  · intro g cap w' hown hgrow hat _
    rw [ir_snoc] at hown
    exact h g cap w' hown hgrow hat
section
variable {w0 w : World} {base F LV FL N : Nat} {a b c : Value} {Lv Fl : List Int} {vo : Value} {ord : List Nat} {vq : Value} {q : List Wt}
theorem own_grown {W w' : World} {bs e size n : Nat} {v : Value} {xs : List Value} {row : Option Nat} (h : W.ownsRow bs e size v n xs) (hg : W.grownBy w' row) (hne : ∀ k, v.ownBlock = some k → row ≠ some k) : w'.ownsRow bs e size v n xs := by
  have hlt := h.lt
  obtain ⟨h1, h2⟩ := h
  refine ⟨h1, ?_⟩
  rcases h2 with h2 | ⟨g, cap, cur, rfl, h3, h4, h5⟩
  · exact .inl h2
  · exact .inr ⟨g, cap, cur, rfl, h3, (hg.block g (hlt g rfl).2 (fun e2 => hne g rfl e2.symm)).trans h4, h5⟩
theorem FM.order {w' : World} {g cap k : Nat} (h : FM w0 w base F LV FL N a b c Lv Fl vo ord vq q) (hown : w'.ownsRow base 3 1 (.slice (some ⟨g, 0, none⟩) (ord.length + 1) cap) (ord.length + 1) (ir (on ord ++ [(k : Int)]))) (hgr : w.grownBy w' vo.ownBlock) (hat : vo.ownBlock = some g ∨ w.heap.size ≤ g) : FM w0 (w'.setCell ⟨F, 5, none⟩ (.slice (some ⟨g, 0, none⟩) (ord.length + 1) cap)) base F LV FL N a b c Lv Fl (.slice (some ⟨g, 0, none⟩) (ord.length + 1) cap) (ord ++ [k]) vq q := by
  obtain ⟨⟨p1, p2, p3⟩, ⟨p4, p5, p6⟩, p7, p8⟩ := h.b1
  obtain ⟨n1, n2, n3⟩ := h.b2
  have hv : ∀ i, i < base → vo.ownBlock ≠ some i := fun i hi e => by have := (h.ro.lt i e).1; omega
  refine ⟨Gr.set (Below.grown h.gr.out hgr h.gr.out.size (fun i e => by have := (h.ro.lt i e).1; omega)) p1 5 _, (At.grow h.f hgr (hv _ p4)).put 5 _, (At.grow h.lv hgr (hv _ p5)).skip n1 5 _, (At.grow h.fl hgr (hv _ p6)).skip n2 5 _, h.ll, ?_, own_set (own_grown h.rq hgr (fun k e e2 => h.dis k e2 e)) p4 5 _, h.hp, ⟨⟨p1, p2, p3⟩, ⟨p4, p5, p6⟩, by have := hgr.size; simp; omega, p8⟩, h.b2, ?_⟩
  · have e : on (ord ++ [k]) = on ord ++ [(k : Int)] := by simp [on]
    rw [List.length_append, e]
    exact own_set hown p4 5 _
  · intro i hi e
    have e' : g = i := by simpa [Value.ownBlock] using hi
    rcases hat with hat | hat
    · exact h.dis i (by rw [hat, e']) e
    · have := (h.rq.lt i e).2; omega
theorem FM.pop {w' : World} {g cap n : Nat} {q' : List Wt} (h : FM w0 w base F LV FL N a b c Lv Fl vo ord (.slice (some ⟨g, 0, none⟩) (n + 1) cap) q) (hf : At w' F [a, b, c, .slice (some ⟨LV, 0, none⟩) N N, .slice (some ⟨FL, 0, none⟩) N N, vo, .slice (some ⟨g, 0, none⟩) n cap]) (hO : OW w' base g cap (q'.take n)) (hn : q'.length = n + 1) (hp : Hp q' n) (hF : Fr F (.slice (some ⟨g, 0, none⟩) n cap) w w') : FM w0 w' base F LV FL N a b c Lv Fl vo ord (.slice (some ⟨g, 0, none⟩) n cap) (q'.take n) := by
  have hl : (q'.take n).length = n := by rw [List.length_take]; omega
  refine FM.push (q' := q'.take n) h hf hO hl ?_ ⟨hF.os, hF.tape, hF.output, hF.size, hF.block⟩ (.inl rfl)
  intro i h0 h1
  have e : ∀ k, k < n → wx (q'.take n) k = wx q' k := fun k hk => by unfold wx; simp [hk]
  rw [e i h1, e _ (by omega)]
  exact hp i h0 h1
end
end Go.Proofs.YtbkggcfogmgmmaaDoor
