/-
  basin.groups: lists.; basin.groups: lists, walked.; basin.lakes.
-/
import Derived.Test.YtddnebgnohlchaaGreatDoorQJ20
import Derived.Test.YtddnebgnohlchaaGreatDoorQJ7
import Derived.Deep.RegionHeldLaw
import Derived.Test.YtddnebgnohlchaaGreatDoorQJ16
namespace Go.Proofs.YtddnebgnohlchaaGreatDoor
open Go.RowKit
attribute [local go_sem ↓] Go.wp_at_zero Go.wp_at_succ

theorem Onl.setN {A : Nat} {a b : World} (h : Onl A a b) {c : Nat} (hc : a.heap.size ≤ c) (o : Nat) (v : Value) : Onl A a (b.setCell ⟨c, o, none⟩ v) := by
  have k := Below.setCell (Below.refl 0 b) (p := ⟨c, o, none⟩) (Nat.zero_le _) v
  refine ⟨k.os.trans h.os, k.tape.trans h.tape, k.output.trans h.output, by simpa using h.size, fun i hi hn => ?_⟩
  rw [Below.heap_setCell b ⟨c, o, none⟩ v i (fun e => by have e' : i = c := e; omega)]; exact h.block i hi hn
theorem Onl.grown {A : Nat} {a b c : World} {row : Option Nat} (h : Onl A a b) (hg : b.grownBy c row) (hr : ∀ g, row = some g → a.heap.size ≤ g) : Onl A a c :=
  ⟨hg.os.trans h.os, hg.tape.trans h.tape, hg.output.trans h.output, Nat.le_trans h.size hg.size, fun i hi hn => (hg.block i (Nat.lt_of_lt_of_le hi h.size) (fun e => by have := hr i e.symm; omega)).trans (h.block i hi hn)⟩
theorem RR.onl {W w' : World} {base A : Nat} {v : Value} {vs : List Value} {Ls : List (List Int)} (h : RR W base v vs Ls) (k : Onl A W w') (hA : A < base) : RR w' base v vs Ls :=
  ⟨h.o.kept k (.inr fun e => by have := (h.o.lt A e).1; omega), h.n, fun j hj => (h.i j hj).kept k (.inr fun e => by have := ((h.i j hj).lt A e).1; omega), h.d, h.dd⟩
theorem wpList_s1 {ops : Array Oper} {rest : List Oper} {o : Oper} {a : Act} {Q : Exit → Act → World → Prop} (W : World) (b0 : Nat) (v : Value) (vs : List Value) (n B : Nat) (s x : Operand) (hgd : o.guard = none)
    (ho : o.op = .call { callee := .builtin .append, args := #[s, x], argTypes := #[33, 33] }) (hs : a.eval s = v) (hx : a.eval x = .slice (some ⟨B, 0, none⟩) 1 1) (hn : vs.length = n) (hl : n ≤ 20000)
    (hO : W.ownsRow b0 30 1 v n vs) (hN : At W B [.slice none 0 0]) (hb : b0 ≤ W.heap.size) (H : Nat) (hH : W.heap.size = H)
    (h : ∀ g cap w', Hid (w'.ownsRow b0 30 1 (.slice (some ⟨g, 0, none⟩) (n + 1) cap) (n + 1) (vs ++ [.slice none 0 0])) → Hid (W.grownBy w' v.ownBlock) → Hid (v.ownBlock = some g ∨ g = H) → wpList Tryz.prog ops Q rest (a.put o.dst (.slice (some ⟨g, 0, none⟩) (n + 1) cap)) w') : wpList Tryz.prog ops Q (o :: rest) a W := by
  have hml : 30000 ≤ maxLen := by decide
  obtain ⟨i0, hi, hz0, hz1, hz2⟩ := info_parts infoS
  refine wpList_plain hgd fun _ hK => wp_append_lies W s x _ ho b0 _ i0 (.slice none 0 0) 1 24 undS hi hz0 hz1 hz2 rfl (by decide) v n vs hs hO ⟨B, 0, none⟩ 1 1 [.slice none 0 0] hx rfl ?_ ?_ (by decide) (by omega) (by omega) hb H hH ?_
  · intro j u hu
    match j with
    | 0 => simp at hu; subst hu; exact (hN.1 0 (by simp)).1
    | j + 1 => simp at hu
  · intro u hu; simp at hu; subst hu; rfl
  · intro g cap w' h1 h2 h3 _
    exact hK _ _ (h g cap w' h1 h2 h3)
end Go.Proofs.YtddnebgnohlchaaGreatDoor
namespace Go.Proofs.YtddnebgnohlchaaGreatDoor
open Go.RowKit
attribute [local go_sem ↓] Go.wp_at_zero Go.wp_at_succ

theorem step_l1 {ops : Array Oper} {o : Oper} {a : Act} {K : Act → World → Prop} {Q : Exit → Act → World → Prop} {Ep : Prop} (W : World) (b0 : Nat) (v : Value) (l : List Int) (r : Int) (n B : Nat) (s x : Operand) (hgd : o.guard = none)
    (ho : o.op = .call { callee := .builtin .append, args := #[s, x], argTypes := #[30, 30] }) (hs : a.eval s = v) (hx : a.eval x = .slice (some ⟨B, 0, none⟩) 1 1) (hn : l.length = n) (hl : n ≤ 20000)
    (hO : W.ownsRow b0 3 1 v n (ir l)) (hN : At W B [.int .i64 r]) (hb : b0 ≤ W.heap.size) (H : Nat) (hH : W.heap.size = H)
    (h : ∀ g cap w', w'.ownsRow b0 3 1 (.slice (some ⟨g, 0, none⟩) (n + 1) cap) (n + 1) (ir (l ++ [r])) → W.grownBy w' v.ownBlock → (v.ownBlock = some g ∨ g = H) → K (a.put o.dst (.slice (some ⟨g, 0, none⟩) (n + 1) cap)) w') :
    if Region.wanted o (yielded ops a.tmps) = true then Oper.wp Tryz.prog o a W K Q else Ep := by
  have hml : 30000 ≤ maxLen := by decide
  obtain ⟨i0, hi, hz0, hz1, hz2⟩ := info_parts infoJ
  refine step_append_lies W hgd s x _ ho b0 _ i0 (.int .i64 0) 1 8 undI hi hz0 hz1 hz2 rfl (by decide) v n (ir l) hs hO ⟨B, 0, none⟩ 1 1 [.int .i64 r] hx rfl ?_ ?_ (by decide) (by omega) (by omega) hb H hH ?_
  · intro j u hu
    match j with
    | 0 => simp at hu; subst hu; exact (hN.1 0 (by simp)).1
    | j + 1 => simp at hu
  · intro u hu; simp at hu; subst hu; rfl
  · intro g cap w' hown hgrow hat _
    rw [ir_snoc] at hown
    exact h g cap w' hown hgrow hat
/-- What lies in memory while groups become lists. -/
structure LS (w W : World) (GB PL N base : Nat) (p : Nat → Nat) (M : List Nat) (k : Nat) (v : Value) (vs : List Value) : Prop where
  g : ∃ LG q, At W GB (ir LG) ∧ Gs LG N q ∧ ∀ i, rt q i = rt p i
  pl : ∃ P, At W PL (ir P) ∧ P.length = N ∧ ∀ j, (hj : j < (rsK (rt p) M k).length) → gl P (rsK (rt p) M k)[j] = (j : Int)
  r : RR W base v vs (lsK (rt p) M k)
  o : Onl GB w W
  b : (GB < w.heap.size ∧ w.heap.size ≤ PL ∧ PL < base) ∧ base ≤ W.heap.size
/-- In the midst of a round: one number is still to be put behind the others of row j. -/
structure LR (w W : World) (GB PL N base : Nat) (p : Nat → Nat) (M : List Nat) (k : Nat) (v : Value) (vs : List Value) (Ls : List (List Int)) (fi j : Nat) (x : Int) : Prop where
  g : ∃ LG q, At W GB (ir LG) ∧ Gs LG N q ∧ ∀ i, rt q i = rt p i
  pl : ∃ P, At W PL (ir P) ∧ P.length = N ∧ (∀ j, (hj : j < (rsK (rt p) M (k + 1)).length) → gl P (rsK (rt p) M (k + 1))[j] = (j : Int)) ∧ gl P fi = (j : Int)
  r : RR W base v vs Ls
  f : lsK (rt p) M (k + 1) = Ls.set j (lx Ls j ++ [x])
  jl : j < vs.length
  l : (lx Ls j).length ≤ M.length
  o : Onl GB w W
  b : (GB < w.heap.size ∧ w.heap.size ≤ PL ∧ PL < base) ∧ base ≤ W.heap.size
theorem LR.fin {w W w' : World} {GB PL N base : Nat} {p : Nat → Nat} {M : List Nat} {k gO cap fi j : Nat} {vs : List Value} {Ls : List (List Int)} {x : Int} {ob : Obj} {u : Value} (h : LR w W GB PL N base p M k (.slice (some ⟨gO, 0, none⟩) vs.length cap) vs Ls fi j x)
    (hown : w'.ownsRow base 3 1 u ((lx Ls j).length + 1) (ir (lx Ls j ++ [x]))) (hg : (W.alloc ob).grownBy w' (vx vs j).ownBlock) (hat : ∀ g, u.ownBlock = some g → (vx vs j).ownBlock = some g ∨ W.heap.size ≤ g) : LS w (w'.setCell ⟨gO, j, none⟩ u) GB PL N base p M (k + 1) (.slice (some ⟨gO, 0, none⟩) vs.length cap) (vs.set j u) := by
  obtain ⟨⟨b1, b2, b3⟩, b4⟩ := h.b
  have hgO := (h.r.o.lt gO rfl).1
  have hrow : ∀ g, (vx vs j).ownBlock = some g → base ≤ g := fun g e => ((h.r.i j h.jl).lt g e).1
  have keep : ∀ B L, B < base → At W B L → At (w'.setCell ⟨gO, j, none⟩ u) B L := fun B L hB hA => by
    have h1 := (hA.alloc ob).grow hg (fun e => by have := hrow B e; omega)
    exact h1.onl ((Onl.refl gO w').set _ _) (by omega)
  obtain ⟨LG, q, a1, a2, a3⟩ := h.g
  obtain ⟨P, c1, c2, c3, c4⟩ := h.pl
  have hs : w'.heap.size ≥ W.heap.size := by have := hg.size; simp at this; omega
  refine ⟨⟨LG, q, keep _ _ (by omega) a1, a2, a3⟩, ⟨P, keep _ _ b3 c1, c2, c3⟩, ?_, ?_, ⟨b1, b2, b3⟩, by simp; omega⟩
  · rw [h.f]; exact h.r.put rfl h.jl hown hg hat
  · exact ((h.o.alloc ob).grown hg (fun g e => by have := hrow g e; omega)).setN (by omega) _ _
theorem LR.later {w W w' : World} {GB PL N base : Nat} {p : Nat → Nat} {M : List Nat} {k gO cap fi j K : Nat} {vs : List Value} {Ls : List (List Int)} {x : Int} (h : LR w W GB PL N base p M k (.slice (some ⟨gO, 0, none⟩) K cap) vs Ls fi j x) (hK : vs.length = K) (ob : Obj) (hg : (W.alloc ob).grownBy w' (vx vs j).ownBlock) (hf : fi < N) : w'.cell? ⟨PL, fi, none⟩ = some (.int .i64 (j : Int)) ∧ w'.cell? ⟨gO, j, none⟩ = some (vx vs j) ∧ w'.frozen? ⟨gO, j, none⟩ = false := by
  subst hK
  obtain ⟨⟨b1, b2, b3⟩, b4⟩ := h.b
  obtain ⟨P, c1, c2, c3, c4⟩ := h.pl
  have hgO := (h.r.o.lt gO rfl)
  have a1 := (c1.alloc ob).grow hg (fun e => by have := ((h.r.i j h.jl).lt _ e).1; omega)
  obtain ⟨d1, _⟩ := a1.get (j := fi) (by rw [c2]; exact hf)
  rw [gl_get (by rw [c2]; exact hf), c4] at d1
  obtain ⟨e1, e2⟩ := h.r.cell rfl h.jl
  have hb : w'.heap[gO]? = W.heap[gO]? := by
    rw [hg.block gO (by simp; omega) (fun e => h.r.d j gO h.jl e.symm rfl)]
    show (W.heap.push ob)[gO]? = _
    rw [Array.getElem?_push, if_neg (Nat.ne_of_lt hgO.2)]
  refine ⟨d1, ?_, ?_⟩
  · rw [← e1]; simp [World.cell?, hb]
  · rw [← e2]; simp [World.frozen?, hb]
/-- A new group: its place is written down, and an empty row comes. -/
theorem LS.new {w W w' : World} {GB PL N base k x : Nat} {p : Nat → Nat} {M : List Nat} {v v' : Value} {vs : List Value} {ob : Obj} (h : LS w W GB PL N base p M k v vs) (hx : x < N) (h1 : rsK (rt p) M (k + 1) = rsK (rt p) M k ++ [x]) (hnew : ∀ r ∈ rsK (rt p) M k, r ≠ x) (h2 : lsK (rt p) M (k + 1) = (lsK (rt p) M k ++ [[]]).set (lsK (rt p) M k).length ([] ++ [(x : Int)]))
    (hown : w'.ownsRow base 30 1 v' (vs.length + 1) (vs ++ [.slice none 0 0])) (hg : ((W.setCell ⟨PL, x, none⟩ (.int .i64 (vs.length : Int))).alloc ob).grownBy w' v.ownBlock) (hat : ∀ g, v'.ownBlock = some g → v.ownBlock = some g ∨ W.heap.size ≤ g) : LR w w' GB PL N base p M k v' (vs ++ [.slice none 0 0]) (lsK (rt p) M k ++ [[]]) x vs.length (x : Int) := by
  obtain ⟨⟨b1, b2, b3⟩, b4⟩ := h.b
  have hrow : ∀ g, v.ownBlock = some g → base ≤ g := fun g e => (h.r.o.lt g e).1
  obtain ⟨LG, q, a1, a2, a3⟩ := h.g
  obtain ⟨P, c1, c2, c3⟩ := h.pl
  have hl : vs.length = (rsK (rt p) M k).length := by rw [h.r.n, lsK_len]
  have hs : w'.heap.size ≥ W.heap.size := by have := hg.size; simp at this; omega
  have r1 : RR (W.setCell ⟨PL, x, none⟩ (.int .i64 (vs.length : Int))) base v vs (lsK (rt p) M k) := by
    refine h.r.onl (A := PL) ((Onl.refl PL W).set _ _) b3
  have k1 := (c1.put x (.int .i64 (vs.length : Int))).alloc ob
  rw [ir_set] at k1
  refine ⟨⟨LG, q, ((a1.onl ((Onl.refl PL W).set x (.int .i64 (vs.length : Int))) (by omega)).alloc ob).grow hg (fun e => by have := hrow _ e; omega), a2, a3⟩, ⟨P.set x (vs.length : Int), k1.grow hg (fun e => by have := hrow _ e; omega), by simp [c2], fun i hi => ?_, by rw [gl_set (by rw [c2]; exact hx), if_pos rfl]⟩, ?_, ?_, by simp, ?_, ?_, ⟨b1, b2, b3⟩, by omega⟩
  · have hi2 := hi
    rw [h1, List.length_append, List.length_singleton] at hi2
    have c2x : x < P.length := by rw [c2]; exact hx
    by_cases e : i < (rsK (rt p) M k).length
    · have e2 : (rsK (rt p) M (k + 1))[i] = (rsK (rt p) M k)[i] := by simp only [h1]; exact List.getElem_append_left e
      rw [e2, gl_set c2x, if_neg (fun e3 => hnew _ (List.getElem_mem e) e3)]
      exact c3 i e
    · have e2 : (rsK (rt p) M (k + 1))[i] = x := by
        simp only [h1]
        rw [List.getElem_append_right (by omega)]
        simp
      rw [e2, gl_set c2x, if_pos rfl, hl, show i = (rsK (rt p) M k).length by omega]
  · refine r1.more hown hg (fun g e => ?_)
    rcases hat g e with c | c
    · exact .inl c
    · exact .inr (by simpa using c)
  · rw [h2, h.r.n]
    congr 1
    have : lx (lsK (rt p) M k ++ [[]]) (lsK (rt p) M k).length = [] := by unfold lx; simp
    rw [this]
  · have : lx (lsK (rt p) M k ++ [[]]) vs.length = [] := by unfold lx; rw [h.r.n]; simp
    rw [this]; exact Nat.zero_le _
  · exact ((h.o.setN b2 _ _).alloc ob).grown hg (fun g e => by have := hrow g e; omega)
/-- One more of a group. -/
theorem LS.old {w W : World} {GB PL N base k x fi : Nat} {p : Nat → Nat} {M : List Nat} {v : Value} {vs : List Value} (h : LS w W GB PL N base p M k v vs) (h1 : rsK (rt p) M (k + 1) = rsK (rt p) M k) (h2 : ∃ j, ∃ hj : j < (rsK (rt p) M k).length, (rsK (rt p) M k)[j] = fi ∧ lsK (rt p) M (k + 1) = (lsK (rt p) M k).set j (lx (lsK (rt p) M k) j ++ [(x : Int)])) : ∃ j, LR w W GB PL N base p M k v vs (lsK (rt p) M k) fi j (x : Int) := by
  obtain ⟨j, hj, e1, e2⟩ := h2
  obtain ⟨P, c1, c2, c3⟩ := h.pl
  refine ⟨j, h.g, ⟨P, c1, c2, by simp only [h1]; exact c3, by rw [← e1]; exact c3 j hj⟩, h.r, e2, by rw [h.r.n, lsK_len]; exact hj, ?_, h.o, h.b⟩
  rw [← lx_get (by rw [lsK_len]; exact hj), lsK_get _ hj]
  unfold grK
  rw [List.length_map]
  refine Nat.le_trans (List.length_filter_le _ _) ?_
  rw [List.length_take]
  omega
set_option maxRecDepth 4000 in
set_option maxHeartbeats 8000000 in
theorem lists_any {GB N mb mo mcap : Nat} {mad : Option Addr} {LG : List Int} {p : Nat → Nat} {M : List Nat} (w : World) (hN : N ≤ 16384) (hA : At w GB (ir LG)) (hg : Gs LG N p) (hM : ISl w mad mb mo mcap (on M)) (hne : mb ≠ GB) (hMl : M.length ≤ 16384) (hMm : ∀ x ∈ M, x < N) (hmem : Mem (rt p) M) : Calls Tryz.prog 28 #[.slice (some ⟨GB, 0, none⟩) N N, .slice mad M.length mcap] w fun e w' => ∃ v, e = .returned v ∧ ∃ base vs, RR w' base v vs (lsK (rt p) M M.length) ∧ w.heap.size ≤ base ∧ Onl GB w w' := by
  obtain ⟨CS, hCS, mk⟩ := made_run N (by omega)
  have E0 : Hid (LS w (w.alloc (.cells CS 3)) GB w.heap.size N (w.heap.size + 1) p M 0 (.slice none 0 0) []) := by
    refine ⟨⟨LG, p, hA.alloc _, hg, fun _ => rfl⟩, ⟨List.replicate N 0, by rw [← hCS]; exact At.newArr _ _ _, by simp, fun j hj => by simp [rsK] at hj⟩, by rw [lsK_0]; exact RR.nil _ _, (Onl.refl GB w).alloc _, ⟨hA.lt, Nat.le_refl _, Nat.lt_succ_self _⟩, by simp⟩
  have HMs := hidb (fun W (hO : Onl GB w W) => hM.onl hO hne)
  have HMm := hidb (show (∀ x ∈ M, x < N) ∧ Mem (rt p) M from ⟨hMm, hmem⟩)
  have HN := hidb hN
  obtain ⟨ML, hML⟩ : ∃ ML, ML = M.length := ⟨_, rfl⟩
  have HML := hidb hML
  have HM := hidb (show ML ≤ 16384 by omega)
  rw [← hML]
  clear hCS hA hg hM hne hMl hMm hmem hN hML
  go_enter Tryz.func28, Tryz.ntmps28
  go_wp2
  obtain ⟨PL, hPL⟩ : ∃ z, z = w.heap.size := ⟨_, rfl⟩
  obtain ⟨base, hbase⟩ : ∃ z, z = w.heap.size + 1 := ⟨_, rfl⟩
  rw [← hbase, ← hPL] at E0
  rw [← hPL]
  have HBs := hidb (show w.heap.size ≤ base by omega)
  clear mk hPL hbase
  generalize w.alloc (.cells CS 3) = w1 at *
  go_loopw [5, 15] (fun v t wr => ∃ (k : Nat) (vs : List Value), k ≤ ML ∧ t = .int .i64 (k : Int) ∧ Hid (LS w wr GB PL N base p M k v vs)) (fun _ t _ => ML - (intOf t).toNat)
  case atStart => exact ⟨0, [], Nat.zero_le _, rfl, E0⟩
  case round =>
    clear E0
    obtain ⟨k, vs, hk, rfl, E⟩ := hrel
    obtain ⟨adv, capv, rfl⟩ := own_shape1' E.out.r.o
    by_cases h1 : ¬ k < ML
    · have h1' : ¬ (k : Int) < (ML : Int) := by omega
      have hkM : k = ML := by omega
      have HZ := hidb (show RR wr base (.slice adv vs.length capv) vs (lsK (rt p) M ML) ∧ w.heap.size ≤ base ∧ Onl GB w wr by rw [← hkM]; exact ⟨E.out.r, HBs.out, E.out.o⟩)
      clear h1 hkM E
      go_wp2
      go_ret
      exact ⟨.slice adv vs.length capv, rfl, base, ⟨vs, HZ.out.1⟩, HZ.out.2⟩
    · have h1' : (k : Int) < (ML : Int) := by omega
      have hkM : k < M.length := by rw [← HML.out]; omega
      have e1 : IntKind.i64.wrap ((k : Int) + 1) = ((k + 1 : Nat) : Int) := by rw [show (k : Int) + 1 = ((k + 1 : Nat) : Int) by omega]; exact wrap_in (by have := HM.out; omega) (by have := HM.out; omega)
      have IM := HMs.out _ E.out.o
      have ixM := IM.ix k (by rw [List.length_map]; exact hkM)
      have cM := IM.gcell (k := k) (by rw [List.length_map]; exact hkM)
      rw [List.length_map, ← HML.out] at ixM
      rw [show gl (on M) k = ((M[k] : Nat) : Int) by rw [← gl_get (by rw [List.length_map]; exact hkM)]; simp [on]] at cM
      have hnN : M[k] < N := HMm.out.1 _ (List.getElem_mem hkM)
      obtain ⟨LG1, q1, gA, gG, gR⟩ := E.out.g
      have HFi := hidb (first_any M[k] hnN wr gA gG)
      rw [gR] at HFi
      have HFN := hidb (show rt p M[k] < N from Nat.lt_of_le_of_lt (rt_le _) hnN)
      have HNew := hidb (fun hr => And.intro (ls_new HMm.out.2 hkM hr) (fun r (hr2 : r ∈ rsK (rt p) M k) => Nat.ne_of_lt (mem_take HMm.out.2 hkM (rsK_mem hr2).1)))
      have HOld := hidb (fun hr => ls_old HMm.out.2 hkM hr)
      have HnN := hidb hnN
      have HkM := hidb (show k < ML by omega)
      have HVl : Hid (vs.length ≤ 16384) := by
        show _ ≤ _
        rw [E.out.r.n, lsK_len]
        unfold rsK
        refine Nat.le_trans (List.length_filter_le _ _) ?_
        rw [List.length_take]
        have := HM.out
        omega
      generalize M[k] = nn at *
      clear h1 IM hnN gA gG
      go_wp2_with fail
      refine HFi.out.mono ?_
      rintro e w2 ⟨rfl, LG2, q2, gA2, gG2, gR2, gO2⟩
      have E2 : Hid (LS w w2 GB PL N base p M k (.slice adv vs.length capv) vs) := by
        obtain ⟨P, pA, pL, pE⟩ := E.out.pl
        obtain ⟨⟨b1, b2, b3⟩, b4⟩ := E.out.b
        exact ⟨⟨LG2, q2, gA2, gG2, fun i => (gR2 i).trans (gR i)⟩, ⟨P, pA.onl gO2 (by omega), pL, pE⟩, E.out.r.onl gO2 (by omega), E.out.o.trans gO2, ⟨b1, b2, b3⟩, Nat.le_trans b4 gO2.size⟩
      clear E gA2 gG2 gR2 gO2 gR cM ixM HFi hkM
      by_cases hr : rt p nn = nn
      · obtain ⟨⟨hR1, hL1⟩, hR2⟩ := HNew.out hr
        rw [hr]
        obtain ⟨P, pA, pL, pE⟩ := E2.out.pl
        obtain ⟨cP, fP⟩ := pA.get (j := nn) (by rw [pL]; exact HnN.out)
        rw [gl_get (by rw [pL]; exact HnN.out)] at cP
        have ixP := iindex PL 0 N N nn HnN.out
        rw [Nat.zero_add] at ixP
        have HP := hidb (And.intro hR1 (And.intro hR2 hL1))
        have HO3 : Hid ((w2.setCell ⟨PL, nn, none⟩ (.int .i64 ((vs.length : Nat) : Int))).ownsRow base 30 1 (.slice adv vs.length capv) vs.length vs) := (E2.out.r.onl ((Onl.refl PL w2).set nn _) E2.out.b.1.2.2).o
        have HB := hidb E2.out.b.2
        clear hR1 hL1 hR2 pA pL pE HNew HOld HFN
        go_wp2_with (at_builtin; refine wpList_s1 _ base (.slice adv vs.length capv) vs vs.length w2.heap.size _ _ rfl rfl rfl rfl rfl (Nat.le_trans HVl.out (by decide)) (HO3.out.alloc _) (At.at1 (by simp) _ _) (by have := HB.out; simp; omega) (w2.heap.size + 1) (by simp) ?_; intro g4 cap4 W4 ho4 hg4 ha4)
        have E4 : Hid (LR w W4 GB PL N base p M k (.slice (some ⟨g4, 0, none⟩) (vs.length + 1) cap4) (vs ++ [.slice none 0 0]) (lsK (rt p) M k ++ [[]]) nn vs.length (nn : Int)) := E2.out.new HnN.out HP.out.1 HP.out.2.1 HP.out.2.2 ho4.out hg4.out (fun g e => by
          have e' : g4 = g := Option.some.inj e
          rcases ha4.out with c | c
          · exact .inl (by rw [← e']; exact c)
          · exact .inr (by omega))
        have HK4 : Hid ((vs ++ [Value.slice none 0 0]).length = vs.length + 1) := by show _ = _; simp
        have HF4 := HnN
        clear cP fP ixP HO3 HB HP ho4 hg4 ha4 E2 HVl hr
        generalize vs ++ [Value.slice none 0 0] = vs4 at *
        generalize lsK (rt p) M k ++ [[]] = Ls4 at *
        generalize vs.length + 1 = K4 at *
        generalize vs.length = jj at *
        obtain ⟨P4, pA4, pL4, _, pF4⟩ := E4.out.pl
        have ixP4 := iindex PL 0 N N nn HF4.out
        rw [Nat.zero_add] at ixP4
        obtain ⟨cP4, fP4⟩ := pA4.get (j := nn) (by rw [pL4]; exact HF4.out)
        rw [gl_get (by rw [pL4]; exact HF4.out), pF4] at cP4
        have HJ : Hid (jj < K4) := by show _ < _; rw [← HK4.out]; exact E4.out.jl
        have ixO := sindex g4 K4 cap4 jj HJ.out
        obtain ⟨cO, fO⟩ := E4.out.r.cell (by rw [HK4.out]) E4.out.jl
        obtain ⟨adj, capj, hvj⟩ := own_shape1' (E4.out.r.i jj E4.out.jl)
        have HIn := hidb (E4.out.r.i jj E4.out.jl)
        have HLl : Hid ((lx Ls4 jj).length ≤ 20000) := by show _ ≤ _; have h1 := E4.out.l; have h2 := HM.out; have h3 := HML.out; omega
        have HbW := hidb E4.out.b.2
        have HK5 := hidb (fun (w5 : World) ob (hg : (W4.alloc ob).grownBy w5 (vx vs4 jj).ownBlock) => LR.later E4.out HK4.out ob hg HF4.out)
        have HE := hidb (fun (w5 : World) ob u h1 h2 h3 => LR.fin (w' := w5) (ob := ob) (u := u) (by rw [HK4.out]; exact E4.out) h1 h2 h3)
        rw [HK4.out] at HE
        obtain ⟨cPa, cOa, _⟩ := HK5.out (W4.alloc (.cells #[.int .i64 (nn : Int)] 3)) (.cells #[.int .i64 (nn : Int)] 3) ⟨rfl, rfl, rfl, Nat.le_refl _, fun _ _ _ => rfl⟩
        rw [hvj] at cO cOa HIn HK5 HE
        obtain ⟨lj, hlj⟩ : ∃ z, z = (lx Ls4 jj).length := ⟨_, rfl⟩
        rw [← hlj] at cO cOa HIn HLl HK5 HE
        have HLj := hidb hlj
        have HHs := hidb (show base ≤ W4.heap.size + 1 from Nat.le_succ_of_le HbW.out)
        clear hvj hlj pA4 pL4 pF4 E4 HK4
        go_region_law (refine step_l1 _ base (.slice adj lj capj) (lx Ls4 jj) (nn : Int) lj W4.heap.size _ _ rfl rfl rfl rfl HLj.out.symm HLl.out (HIn.out.alloc _) (At.at1 rfl _ _) (by simp; exact HHs.out) (W4.heap.size + 1) (by simp) ?_; intro g5 cap5 w5 hown5 hgrow5 hat5; obtain ⟨cP5, cO5, fO5⟩ := HK5.out w5 (.cells #[.int .i64 (nn : Int)] 3) ⟨hgrow5.os, hgrow5.tape, hgrow5.output, hgrow5.size, hgrow5.block⟩)
        all_goals
          have HE3 := hidb (HE.out w5 (.cells #[.int .i64 (nn : Int)] 3) _ hown5 ⟨hgrow5.os, hgrow5.tape, hgrow5.output, hgrow5.size, hgrow5.block⟩ (fun g e => by
            have e' : g5 = g := Option.some.inj e
            rcases hat5 with c | c
            · exact .inl (by rw [← e']; exact c)
            · exact .inr (by omega)))
          clear HE HK5 hown5 hgrow5 hat5 HIn cO cOa cPa cP4 fP4 ixP4 ixO fO cP5 cO5 fO5
          go_wp2
          go_roundw
          case rel => exact ⟨k + 1, _, HkM.out, by go_num, HE3⟩
          case measure =>
            have := HkM.out
            show ML - ((k : Int) + 1).toNat < ML - (k : Int).toNat
            omega
      · obtain ⟨hR1, hR2⟩ := HOld.out hr
        obtain ⟨jj, E4'⟩ := E2.out.old hR1 hR2
        have hri : ¬ ((rt p nn : Nat) : Int) = (nn : Int) := by omega
        obtain ⟨g4, rfl⟩ : ∃ g, adv = some ⟨g, 0, none⟩ := by
          obtain ⟨_, h2 | ⟨g', cap', cur, hv', _⟩⟩ := E4'.r.o
          · have hv := h2.1
            have hj := E4'.jl
            simp only [Value.slice.injEq] at hv
            omega
          · simp only [Value.slice.injEq] at hv'
            exact ⟨g', hv'.1⟩
        have E4 := hidb E4'
        have HF4 := HFN
        clear hR1 hR2 E4' HNew HOld E2 HVl hr HFN
        generalize rt p nn = fi at *
        generalize lsK (rt p) M k = Ls4 at *
        obtain ⟨K4, hK4⟩ : ∃ z, z = vs.length := ⟨_, rfl⟩
        rw [← hK4] at E4 ⊢
        have HK4 := hidb hK4.symm
        clear hK4
        have HKK : Hid (vs.length = K4 ∧ K4 = K4) := ⟨HK4.out, rfl⟩
        clear HK4
        go_upto_region 10 with fail
        have HK4 : Hid (vs.length = K4) := HKK.out.1
        clear HKK
        obtain ⟨P4, pA4, pL4, _, pF4⟩ := E4.out.pl
        have ixP4 := iindex PL 0 N N fi HF4.out
        rw [Nat.zero_add] at ixP4
        obtain ⟨cP4, fP4⟩ := pA4.get (j := fi) (by rw [pL4]; exact HF4.out)
        rw [gl_get (by rw [pL4]; exact HF4.out), pF4] at cP4
        have HJ : Hid (jj < K4) := by show _ < _; rw [← HK4.out]; exact E4.out.jl
        have ixO := sindex g4 K4 capv jj HJ.out
        obtain ⟨cO, fO⟩ := E4.out.r.cell (by rw [HK4.out]) E4.out.jl
        obtain ⟨adj, capj, hvj⟩ := own_shape1' (E4.out.r.i jj E4.out.jl)
        have HIn := hidb (E4.out.r.i jj E4.out.jl)
        have HLl : Hid ((lx Ls4 jj).length ≤ 20000) := by show _ ≤ _; have h1 := E4.out.l; have h2 := HM.out; have h3 := HML.out; omega
        have HbW := hidb E4.out.b.2
        have HK5 := hidb (fun (w5 : World) ob (hg : (w2.alloc ob).grownBy w5 (vx vs jj).ownBlock) => LR.later E4.out HK4.out ob hg HF4.out)
        have HE := hidb (fun (w5 : World) ob u h1 h2 h3 => LR.fin (w' := w5) (ob := ob) (u := u) (by rw [HK4.out]; exact E4.out) h1 h2 h3)
        rw [HK4.out] at HE
        obtain ⟨cPa, cOa, _⟩ := HK5.out (w2.alloc (.cells #[.int .i64 (nn : Int)] 3)) (.cells #[.int .i64 (nn : Int)] 3) ⟨rfl, rfl, rfl, Nat.le_refl _, fun _ _ _ => rfl⟩
        rw [hvj] at cO cOa HIn HK5 HE
        obtain ⟨lj, hlj⟩ : ∃ z, z = (lx Ls4 jj).length := ⟨_, rfl⟩
        rw [← hlj] at cO cOa HIn HLl HK5 HE
        have HLj := hidb hlj
        have HHs := hidb (show base ≤ w2.heap.size + 1 from Nat.le_succ_of_le HbW.out)
        clear hvj hlj pA4 pL4 pF4 E4 HK4
        go_region_law (refine step_l1 _ base (.slice adj lj capj) (lx Ls4 jj) (nn : Int) lj w2.heap.size _ _ rfl rfl rfl rfl HLj.out.symm HLl.out (HIn.out.alloc _) (At.at1 rfl _ _) (by simp; exact HHs.out) (w2.heap.size + 1) (by simp) ?_; intro g5 cap5 w5 hown5 hgrow5 hat5; obtain ⟨cP5, cO5, fO5⟩ := HK5.out w5 (.cells #[.int .i64 (nn : Int)] 3) ⟨hgrow5.os, hgrow5.tape, hgrow5.output, hgrow5.size, hgrow5.block⟩)
        all_goals
          have HE3 := hidb (HE.out w5 (.cells #[.int .i64 (nn : Int)] 3) _ hown5 ⟨hgrow5.os, hgrow5.tape, hgrow5.output, hgrow5.size, hgrow5.block⟩ (fun g e => by
            have e' : g5 = g := Option.some.inj e
            rcases hat5 with c | c
            · exact .inl (by rw [← e']; exact c)
            · exact .inr (by omega)))
          clear HE HK5 hown5 hgrow5 hat5 HIn cO cOa cPa cP4 fP4 ixP4 ixO fO cP5 cO5 fO5
          go_wp2
          go_roundw
          case rel => exact ⟨k + 1, _, HkM.out, by go_num, HE3⟩
          case measure =>
            have := HkM.out
            show ML - ((k : Int) + 1).toNat < ML - (k : Int).toNat
            omega
end Go.Proofs.YtddnebgnohlchaaGreatDoor
namespace Go.Proofs.YtddnebgnohlchaaGreatDoor
open Go.RowKit
attribute [local go_sem ↓] Go.wp_at_zero Go.wp_at_succ

theorem PSl.onl {W w' : World} {ad : Option Addr} {b cap A : Nat} {P : List Wt} (h : PSl W ad b cap P) (k : Onl A W w') (hA : ∀ j, j < P.length → b ≠ A) : PSl w' ad b cap P :=
  ⟨fun j hj => by
    obtain ⟨⟨h1, h2⟩, h3⟩ := h.row j hj
    have hb := k.block b h3 (fun e => hA j hj (Option.some.inj e))
    exact ⟨⟨(World.cell?_of_block (w := W) (a := ⟨b, j * 2, none⟩) hb).trans h1, (World.cell?_of_block (w := W) (a := ⟨b, j * 2 + 1, none⟩) hb).trans h2⟩, Nat.lt_of_lt_of_le h3 k.size⟩, h.ix⟩
theorem Gr.onl {w W w' : World} {A : Nat} (h : Gr w W) (k : Onl A W w') (hA : w.heap.size ≤ A) : Gr w w' := by
  have g := h.out
  exact ⟨k.os.trans g.os, k.tape.trans g.tape, k.output.trans g.output, Nat.le_trans g.size k.size, fun i hi => (k.block i (Nat.lt_of_lt_of_le hi g.size) (fun e => by have := Option.some.inj e; omega)).trans (g.block i hi)⟩
/-- What lies in memory while wet cells are joined. -/
structure LK (w W : World) (ad : Option Addr) (b cap GB DB N : Nat) (P : List Wt) (D : List Int) (ρ : Nat → Nat) : Prop where
  p : PSl W ad b cap P
  d : At W DB (ir D)
  g : ∃ LG q, At W GB (ir LG) ∧ Gs LG N q ∧ ∀ i, rt q i = ρ i
  gr : Gr w W
  b : ((∀ j, j < P.length → b ≠ GB) ∧ DB ≠ GB) ∧ w.heap.size ≤ GB
theorem LK.join {w W w' : World} {ad : Option Addr} {b cap GB DB N : Nat} {P : List Wt} {D : List Int} {ρ ρ' : Nat → Nat} (h : LK w W ad b cap GB DB N P D ρ) (k : Onl GB W w') (hg : ∃ LG q, At w' GB (ir LG) ∧ Gs LG N q ∧ ∀ i, rt q i = ρ' i) : LK w w' ad b cap GB DB N P D ρ' :=
  ⟨h.p.onl k h.b.1.1, h.d.onl k h.b.1.2, hg, h.gr.onl k h.b.2, h.b⟩
theorem LK.below {w W w' : World} {ad : Option Addr} {b cap GB DB N : Nat} {P : List Wt} {D : List Int} {ρ : Nat → Nat} (h : LK w W ad b cap GB DB N P D ρ) (hB : Below W.heap.size W w') : LK w w' ad b cap GB DB N P D ρ := by
  obtain ⟨LG, q, a1, a2, a3⟩ := h.g
  exact ⟨h.p.below hB, At.below hB h.d, ⟨LG, q, At.below hB a1, a2, a3⟩, Gr.step h.gr hB, h.b⟩
theorem own_pslb {w : World} {base : Nat} {v : Value} {n : Nat} {P : List Wt} (h : w.ownsRow base 62 2 v n (qr P)) (hn : P.length = n) : ∃ ad b cap, v = .slice ad P.length cap ∧ PSl w ad b cap P ∧ ∀ j, j < P.length → base ≤ b := by
  obtain ⟨ad, b, cap, rfl, hp⟩ := own_psl h hn
  refine ⟨ad, b, cap, rfl, hp, fun j hj => ?_⟩
  have hlt := h.lt
  subst hn
  obtain ⟨h1, h | ⟨g, cap', cur, hv, -⟩⟩ := h
  · obtain ⟨-, h0⟩ := h
    omega
  · simp only [Value.slice.injEq] at hv
    obtain ⟨rfl, -, rfl⟩ := hv
    have e1 := hp.ix j hj w
    rw [pindex g _ cap j hj w] at e1
    have e2 : g = b := by simpa using e1
    rw [← e2]
    exact (hlt g rfl).1
theorem own_islb {w : World} {base : Nat} {v : Value} {n : Nat} {l : List Int} (h : w.ownsRow base 3 1 v n (ir l)) : ∃ ad b cap, v = .slice ad l.length cap ∧ ISl w ad b 0 cap l ∧ base ≤ b := by
  obtain ⟨ad, b, cap, rfl, hp⟩ := own_isl2 h
  by_cases hl : l = []
  · subst hl
    exact ⟨ad, base, cap, rfl, ISl.nil _ _ _ _ _, Nat.le_refl _⟩
  refine ⟨ad, b, cap, rfl, hp, ?_⟩
  have hlt := h.lt
  have h0 : 0 < l.length := List.length_pos_iff.2 hl
  obtain ⟨h1, h | ⟨g, cap', cur, hv, -⟩⟩ := h
  · have hv := h.1
    simp only [Value.slice.injEq] at hv
    omega
  · simp only [Value.slice.injEq] at hv
    obtain ⟨rfl, rfl, rfl⟩ := hv
    have e1 := hp.ix 0 h0 w
    have e3 := iindex g 0 l.length cap 0 h0 w
    rw [e3] at e1
    have e2 : g = b := by simpa using e1
    rw [← e2]
    exact (hlt g rfl).1
theorem wpList_iw {ops : Array Oper} {rest : List Oper} {o : Oper} {a : Act} {Q : Exit → Act → World → Prop} (W : World) (b0 : Nat) (v : Value) (l : List Int) (r : Int) (n B : Nat) (s x : Operand) (hgd : o.guard = none)
    (ho : o.op = .call { callee := .builtin .append, args := #[s, x], argTypes := #[30, 30] }) (hs : a.eval s = v) (hx : a.eval x = .slice (some ⟨B, 0, none⟩) 1 1) (hl : n ≤ 20000)
    (hO : W.ownsRow b0 3 1 v n (ir l)) (hN : At W B [.int .i64 r]) (hb : b0 ≤ W.heap.size) (H : Nat) (hH : W.heap.size = H)
    (h : ∀ g cap w', Hid (w'.ownsRow b0 3 1 (.slice (some ⟨g, 0, none⟩) (n + 1) cap) (n + 1) (ir (l ++ [r]))) → Hid (W.grownBy w' v.ownBlock) → wpList Tryz.prog ops Q rest (a.put o.dst (.slice (some ⟨g, 0, none⟩) (n + 1) cap)) w') : wpList Tryz.prog ops Q (o :: rest) a W := by
  have hml : 30000 ≤ maxLen := by decide
  obtain ⟨i0, hi, hz0, hz1, hz2⟩ := info_parts infoJ
  refine wpList_plain hgd fun _ hK => wp_append_lies W s x _ ho b0 _ i0 (.int .i64 0) 1 8 undI hi hz0 hz1 hz2 rfl (by decide) v n (ir l) hs hO ⟨B, 0, none⟩ 1 1 [.int .i64 r] hx rfl ?_ ?_ (by decide) (by omega) (by omega) hb H hH ?_
  · intro j u hu
    match j with
    | 0 => simp at hu; subst hu; exact (hN.1 0 (by simp)).1
    | j + 1 => simp at hu
  · intro u hu; simp at hu; subst hu; rfl
  · intro g cap w' h1 h2 h3 _
    rw [ir_snoc] at h1
    exact hK _ _ (h g cap w' h1 h2)
/-- What lies in memory while the wet cells are told. -/
structure LW (w W : World) (GB DB base N q : Nat) (D : List Int) (ρ : Nat → Nat) (v : Value) (M : List Nat) : Prop where
  d : At W DB (ir D)
  g : ∃ LG q, At W GB (ir LG) ∧ Gs LG N q ∧ ∀ i, rt q i = ρ i
  r : W.ownsRow base 3 1 v q (ir (on M))
  gr : Gr w W
  b : (DB < base ∧ GB < base) ∧ w.heap.size ≤ GB ∧ base ≤ W.heap.size
theorem LW.app {w W w' : World} {GB DB base N q : Nat} {D : List Int} {ρ : Nat → Nat} {v v' : Value} {M : List Nat} {x : Nat} {ob : Obj} (h : LW w W GB DB base N q D ρ v M) (hown : w'.ownsRow base 3 1 v' (q + 1) (ir (on M ++ [(x : Int)]))) (hg : (W.alloc ob).grownBy w' v.ownBlock) : LW w w' GB DB base N (q + 1) D ρ v' (M ++ [x]) := by
  have hv : ∀ i, i < base → v.ownBlock ≠ some i := fun i hi e => by have := (h.r.lt i e).1; omega
  obtain ⟨LG, q', a1, a2, a3⟩ := h.g
  obtain ⟨⟨b1, b2⟩, b3, b4⟩ := h.b
  refine ⟨At.grow (h.d.alloc ob) hg (hv _ b1), ⟨LG, q', At.grow (a1.alloc ob) hg (hv _ b2), a2, a3⟩, by rw [show on (M ++ [x]) = on M ++ [(x : Int)] by simp [on]]; exact hown, Below.grown (h.gr.alloc ob).out hg (by have := h.gr.out.size; simp; omega) (fun k hk => by have := (h.r.lt k hk).1; omega), ⟨b1, b2⟩, b3, by have := hg.size; simp at this; omega⟩
end Go.Proofs.YtddnebgnohlchaaGreatDoor
