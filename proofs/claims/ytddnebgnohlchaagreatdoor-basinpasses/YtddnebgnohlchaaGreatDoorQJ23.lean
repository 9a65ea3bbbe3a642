/-
  basin.Passes: the map.; Rows of passes; the closure by which basin.Passes sorts.
-/
import Derived.Test.YtddnebgnohlchaaGreatDoorQJ22
import Derived.Test.YtddnebgnohlchaaGreatDoorQJ21
import Derived.Test.YtddnebgnohlchaaGreatDoorQJ15
import Derived.Lib.MinMax
import Derived.Sort.Grow
namespace Go.Proofs.YtddnebgnohlchaaGreatDoor
open Go.RowKit Go.Maps
attribute [local go_sem ↓] Go.wp_at_zero Go.wp_at_succ

theorem Onl.set2 {A : Nat} {a b : World} (h : Onl A a b) {c : Nat} (hc : a.heap.size ≤ c) (o : Nat) (v : Value) : Onl A a (b.setCell ⟨c, o, none⟩ v) := by
  have k := Below.setCell (Below.refl 0 b) (p := ⟨c, o, none⟩) (Nat.zero_le _) v
  refine ⟨k.os.trans h.os, k.tape.trans h.tape, k.output.trans h.output, by simpa using h.size, fun i hi hn => ?_⟩
  · rw [Below.heap_setCell b ⟨c, o, none⟩ v i (fun e => by simp only at e; omega)]; exact h.block i hi hn
theorem PM.onl {W w' : World} {M n A : Nat} {D : DataW Unit} (h : PM W M n D) (k : Onl A W w') (hA : M ≠ A) : PM w' M n D := h.kept k (fun e => hA (Option.some.inj e))
theorem PM.below {W w' : World} {M n : Nat} {D : DataW Unit} (h : PM W M n D) (hB : Below W.heap.size W w') : PM w' M n D := h.kept (row := none) ⟨hB.os, hB.tape, hB.output, hB.size, fun i hi _ => hB.block i hi⟩ (by simp)
/-- What lies in memory while the pairs are looked at. -/
structure QM (m n : Nat) (l : List Int) (w6 W : World) (M k : Nat) (P : List Wt) : Prop where
  m : ∃ D, PM W M k D ∧ MD D (msF m n l (P.take k))
  on : Onl M w6 W
theorem QM.more {m n : Nat} {l : List Int} {w6 W w' : World} {M k : Nat} {P : List Wt} (h : QM m n l w6 W M k P) (hB : Below W.heap.size W w') : QM m n l w6 w' M k P := by
  obtain ⟨D, h1, h2⟩ := h.m
  exact ⟨⟨D, PM.below h1 hB, h2⟩, h.on.below hB⟩
theorem prK_el {m n : Nat} {l : List Int} (ok : Ok l m n) {q : Wt} (h : q ∈ prK m n D4 l.length) : ∃ c o : Nat, q = ((c : Int), o) ∧ c < l.length ∧ o < l.length := by
  obtain ⟨c, d, hc, hd, h1, hn⟩ := prK_mem h
  have hd8 : d < 8 := by
    simp only [List.mem_cons, List.not_mem_nil, or_false] at hd
    omega
  exact ⟨c, q.2, Prod.ext h1 rfl, hc, by rw [ok.len]; exact (nb_tch hd8 hn).2.1⟩
theorem stM_eq {m n : Nat} {l : List Int} {F : Nn → Option Int} {q : Wt} (h : hom m n l q.1.toNat = hom m n l q.2) : stM m n l F q = F := by unfold stM; rw [if_pos h]
theorem stM_put {m n : Nat} {l : List Int} {F : Nn → Option Int} {q : Wt} (h : ¬ hom m n l q.1.toNat = hom m n l q.2) (hf : ∀ u, F (kq m n l q) = some u → vq l q < u) : stM m n l F q = fun x => if x = kq m n l q then some (vq l q) else F x := by
  unfold stM
  rw [if_neg h]
  cases hF : F (kq m n l q) with
  | none => rfl
  | some u => show (if vq l q < u then _ else _) = _; rw [if_pos (hf u hF)]
theorem stM_keep {m n : Nat} {l : List Int} {F : Nn → Option Int} {q : Wt} (h : ¬ hom m n l q.1.toNat = hom m n l q.2) {u : Int} (hF : F (kq m n l q) = some u) (hu : ¬ vq l q < u) : stM m n l F q = F := by
  unfold stM
  rw [if_neg h, hF]
  show (if vq l q < u then _ else _) = _
  rw [if_neg hu]
end Go.Proofs.YtddnebgnohlchaaGreatDoor
namespace Go.Proofs.YtddnebgnohlchaaGreatDoor
open Go.RowKit
attribute [local go_sem ↓] Go.wp_at_zero Go.wp_at_succ

/-- A pass's cells: its basins, its height. -/
abbrev Tcs (G : Nat × Nat → Int) (p : Nat × Nat) : List Value := [.int .i64 (p.1 : Int), .int .i64 (p.2 : Int), .int .i64 (G p)]
def tr (G : Nat × Nat → Int) (L : List (Nat × Nat)) : List Value := L.flatMap (Tcs G)
def tx (L : List (Nat × Nat)) (j : Nat) : Nat × Nat := L.getD j (0, 0)
theorem tx_get {L : List (Nat × Nat)} {j : Nat} (h : j < L.length) : L[j] = tx L j := by unfold tx; simp [h]
theorem tr_snoc (G : Nat × Nat → Int) (L : List (Nat × Nat)) (p : Nat × Nat) : tr G L ++ Tcs G p = tr G (L ++ [p]) := by simp [tr]
theorem tr_app (G : Nat × Nat → Int) (L M : List (Nat × Nat)) : tr G L ++ tr G M = tr G (L ++ M) := by simp [tr]
theorem tr_len (G : Nat × Nat → Int) : ∀ L : List (Nat × Nat), (tr G L).length = L.length * 3
  | [] => rfl
  | p :: L => by
    have := tr_len G L
    simp [tr] at this ⊢
    omega
theorem tr_get (G : Nat × Nat → Int) : ∀ (q : List (Nat × Nat)) (k : Nat) (_hk : k < q.length) (j : Nat), j < 3 → (tr G q)[k * 3 + j]? = (Tcs G (tx q k))[j]?
  | s :: q, 0, _, j, hj => by
    match j, hj with
    | 0, _ => rfl
    | 1, _ => rfl
    | 2, _ => rfl
  | s :: q, k + 1, hk, j, hj => by
    have ih := tr_get G q k (by simp at hk; omega) j hj
    rw [show (k + 1) * 3 + j = (k * 3 + j) + 3 by omega]
    exact ih
theorem infoT : (Tryz.prog.info? 45).map (fun i => (i.zero, i.size, i.bytes)) = some (some (.agg #[.int .i64 0, .int .i64 0, .int .i64 0]), 3, 24) := by kernel_rfl
theorem undT : Tryz.prog.underlying 25 = some (.slice 45) := by kernel_rfl
theorem tindex (g o n cap k : Nat) (hk : k < n) (w : World) : (Instr.indexAt 25 (.slice (some ⟨g, o, none⟩) n cap) (.int .i64 k)).run Tryz.prog w = .ok (.pointer (some ⟨g, o + k * 3, none⟩)) w := by
  have hu : Tryz.prog.underlying 25 = some (.slice (Tryz.prog.elem 25)) := by kernel_rfl
  refine (run_indexAt_slice (P := Tryz.prog) (w := w) 25 ⟨g, o, none⟩ n cap .i64 (k : Int) hu).trans ?_
  rw [if_pos ⟨by omega, by omega⟩]
  have hs : (sizeOf (Tryz.prog.elem 25)).run Tryz.prog w = .ok 3 w := by kernel_rfl
  rw [hs]
  simp [Addr.add]
/-- A slice of passes that is read. -/
structure TSl (w : World) (G : Nat × Nat → Int) (ad : Option Addr) (b cap : Nat) (L : List (Nat × Nat)) : Prop where
  row : ∀ j, j < L.length → (w.cell? ⟨b, j * 3, none⟩ = some (.int .i64 ((tx L j).1 : Int)) ∧ w.cell? ⟨b, j * 3 + 1, none⟩ = some (.int .i64 ((tx L j).2 : Int)) ∧ w.cell? ⟨b, j * 3 + 2, none⟩ = some (.int .i64 (G (tx L j)))) ∧ b < w.heap.size
  ix : ∀ j : Nat, j < L.length → ∀ w, (Instr.indexAt 25 (.slice ad L.length cap) (.int .i64 j)).run Tryz.prog w = .ok (.pointer (some ⟨b, j * 3, none⟩)) w
  ad : ∀ j, j < L.length → ad = some ⟨b, 0, none⟩ ∧ L.length ≤ cap
theorem TSl.below {W w' : World} {G : Nat × Nat → Int} {ad : Option Addr} {b cap : Nat} {L : List (Nat × Nat)} (h : TSl W G ad b cap L) (hB : Below W.heap.size W w') : TSl w' G ad b cap L :=
  ⟨fun j hj => by
    obtain ⟨⟨h1, h2, h3⟩, h4⟩ := h.row j hj
    exact ⟨⟨(hB.cell (p := ⟨b, j * 3, none⟩) h4).trans h1, (hB.cell (p := ⟨b, j * 3 + 1, none⟩) h4).trans h2, (hB.cell (p := ⟨b, j * 3 + 2, none⟩) h4).trans h3⟩, Nat.lt_of_lt_of_le h4 hB.size⟩, h.ix, h.ad⟩
theorem TSl.nil (w : World) (G : Nat × Nat → Int) (ad : Option Addr) (b cap : Nat) : TSl w G ad b cap [] := ⟨fun j hj => by simp at hj, fun j hj => by simp at hj, fun j hj => by simp at hj⟩
theorem own_tsl {w : World} {G : Nat × Nat → Int} {base : Nat} {v : Value} {n : Nat} {L : List (Nat × Nat)} (h : w.ownsRow base 45 3 v n (tr G L)) (hn : L.length = n) : ∃ ad b cap, v = .slice ad L.length cap ∧ TSl w G ad b cap L := by
  have hlt := h.lt
  subst hn
  obtain ⟨h1, h | ⟨g, cap, cur, hv, hb, hg, hc, hm, hs, ht⟩⟩ := h
  · obtain ⟨rfl, h0⟩ := h
    exact ⟨none, 0, 0, by rw [h0], fun j hj => by omega, fun j hj => by omega, fun j hj => by omega⟩
  · subst hv
    refine ⟨_, g, cap, rfl, fun j hj => ?_, fun j hj w => by have := tindex g 0 _ cap j hj w; rwa [Nat.zero_add] at this, fun j hj => ⟨rfl, by omega⟩⟩
    have key : ∀ i, (hi : i < 3) → w.cell? ⟨g, j * 3 + i, none⟩ = (Tcs G (tx L j))[i]? := by
      intro i hi
      have e1 : (cur.toList.take (L.length * 3))[j * 3 + i]? = (tr G L)[j * 3 + i]? := by rw [ht]
      rw [List.getElem?_take, if_pos (by omega), tr_get G L j hj i hi] at e1
      simp [World.cell?, hg]
      simpa using e1
    exact ⟨⟨key 0 (by decide), key 1 (by decide), key 2 (by decide)⟩, (hlt g rfl).2⟩
theorem news_AtT {W : World} {B : Nat} {G : Nat × Nat → Int} {p : Nat × Nat} (h : At W B (Tcs G p)) : ∀ j u, (Tcs G p)[j]? = some u → W.cell? ((⟨B, 0, none⟩ : Addr).add j) = some u := by
  intro j u hu
  have ea : (⟨B, 0, none⟩ : Addr).add j = ⟨B, j, none⟩ := by
    unfold Addr.add
    split
    · rename_i h0; subst h0; rfl
    · simp
  rw [ea]
  match j with
  | 0 => simp at hu; subst hu; exact h.c3.1
  | 1 => simp at hu; subst hu; exact h.c3.2.1
  | 2 => simp at hu; subst hu; exact h.c3.2.2
  | j + 3 => simp at hu
theorem wpList_t3 {ops : Array Oper} {rest : List Oper} {o : Oper} {a : Act} {Q : Exit → Act → World → Prop} (G : Nat × Nat → Int) (W : World) (b0 : Nat) (v : Value) (l : List (Nat × Nat)) (r : Nat × Nat) (n B : Nat) (s x : Operand) (hgd : o.guard = none)
    (ho : o.op = .call { callee := .builtin .append, args := #[s, x], argTypes := #[25, 25] }) (hs : a.eval s = v) (hx : a.eval x = .slice (some ⟨B, 0, none⟩) 1 1) (hn : l.length = n) (hl : n ≤ 140000)
    (hO : W.ownsRow b0 45 3 v n (tr G l)) (hN : At W B (Tcs G r)) (hb : b0 ≤ W.heap.size)
    (h : ∀ g cap w', Hid (w'.ownsRow b0 45 3 (.slice (some ⟨g, 0, none⟩) (n + 1) cap) (n + 1) (tr G (l ++ [r]))) → Hid (W.grownBy w' v.ownBlock) → wpList Tryz.prog ops Q rest (a.put o.dst (.slice (some ⟨g, 0, none⟩) (n + 1) cap)) w') : wpList Tryz.prog ops Q (o :: rest) a W := by
  have hml : 1000000 ≤ maxLen := by decide
  have ones : ∀ u ∈ Tcs G r, u.oneCell' = true := by
    intro u hu
    simp only [List.mem_cons, List.not_mem_nil, or_false] at hu
    rcases hu with rfl | rfl | rfl <;> rfl
  obtain ⟨i0, hi, hz0, hz1, hz2⟩ := info_parts infoT
  refine wpList_append_own _ hgd s x _ ho b0 _ i0 (.agg #[.int .i64 0, .int .i64 0, .int .i64 0]) 3 24 undT hi hz0 hz1 hz2 rfl (by decide) v n (tr G l) hs hO ⟨B, 0, none⟩ 1 1 (Tcs G r) hx rfl (news_AtT hN) ones (by omega) (by omega) hb ?_
  intro v' w' hown hgrow _
  rw [tr_snoc] at hown
  obtain ⟨g, cap, rfl⟩ : ∃ g cap, v' = .slice (some ⟨g, 0, none⟩) (n + 1) cap := by
    obtain ⟨_, ⟨_, h0⟩ | ⟨g, cap, cur, hv, _⟩⟩ := hown
    · omega
    · exact ⟨g, cap, hv⟩
  exact h g cap w' hown hgrow
/-- Blocks are laid, draws are made, and nothing else. -/
def GF (W w' : World) : Prop := ∃ q os, w' = Go.Sort.grow (W.drewN q) os
theorem GF.refl (W : World) : GF W W := ⟨0, #[], by rw [Go.Sort.grow_empty]; rfl⟩
theorem GF.alloc {W w' : World} (h : GF W w') (o : Obj) : GF W (w'.alloc o) := by
  obtain ⟨q, os, rfl⟩ := h
  exact ⟨q, os ++ #[o], by rw [Go.Sort.alloc_eq_grow, Go.Sort.grow_grow]⟩
theorem GF.drew {W w' : World} (h : GF W w') : GF W w'.drew := by
  obtain ⟨q, os, rfl⟩ := h
  exact ⟨q + 1, os, rfl⟩
set_option maxRecDepth 4000 in
set_option maxHeartbeats 4000000 in
theorem pcmp_any (x y : Nat × Nat) (a b : Int) (w : World) : Calls Tryz.prog 23 #[.agg #[.int .i64 (x.1 : Int), .int .i64 (x.2 : Int), .int .i64 a], .agg #[.int .i64 (y.1 : Int), .int .i64 (y.2 : Int), .int .i64 b]] w fun e w' => e = .returned (.int .i64 (cfN x y)) ∧ ∃ q os', w' = Go.Sort.grow (w.drewN q) os' := by
  have HG0 : GF w ((w.alloc (.cells #[.int .i64 (x.1 : Int), .int .i64 (x.2 : Int), .int .i64 a] 45)).alloc (.cells #[.int .i64 (y.1 : Int), .int .i64 (y.2 : Int), .int .i64 b] 45)) := ((GF.refl w).alloc _).alloc _
  have A1 : At ((w.alloc (.cells #[.int .i64 (x.1 : Int), .int .i64 (x.2 : Int), .int .i64 a] 45)).alloc (.cells #[.int .i64 (y.1 : Int), .int .i64 (y.2 : Int), .int .i64 b] 45)) w.heap.size [.int .i64 (x.1 : Int), .int .i64 (x.2 : Int), .int .i64 a] := (At.new3 _ _ _ _ _).alloc _
  have A2 : At ((w.alloc (.cells #[.int .i64 (x.1 : Int), .int .i64 (x.2 : Int), .int .i64 a] 45)).alloc (.cells #[.int .i64 (y.1 : Int), .int .i64 (y.2 : Int), .int .i64 b] 45)) (w.heap.size + 1) [.int .i64 (y.1 : Int), .int .i64 (y.2 : Int), .int .i64 b] := At.nx3 _ _ _ _ _
  have HE : Hid (∀ w', GF w w' → (.returned (.int .i64 (orI (cmI (x.1 : Int) (y.1 : Int)) (cmI (x.2 : Int) (y.2 : Int)))) : Ending) = .returned (.int .i64 (cfN x y)) ∧ ∃ q os', w' = Go.Sort.grow (w.drewN q) os') := fun w' h => ⟨rfl, h⟩
  go_enter Tryz.func23, Tryz.ntmps23
  go_upto_region 1 with fail
  generalize (w.alloc (.cells #[.int .i64 (x.1 : Int), .int .i64 (x.2 : Int), .int .i64 a] 45)).alloc (.cells #[.int .i64 (y.1 : Int), .int .i64 (y.2 : Int), .int .i64 b] 45) = w1 at *
  have HQ : Hid (∀ W, Gr w1 W → (W.cell? ⟨w.heap.size, 0, none⟩ = some (.int .i64 (x.1 : Int)) ∧ W.cell? ⟨w.heap.size, 1, none⟩ = some (.int .i64 (x.2 : Int))) ∧ W.cell? ⟨w.heap.size + 1, 0, none⟩ = some (.int .i64 (y.1 : Int)) ∧ W.cell? ⟨w.heap.size + 1, 1, none⟩ = some (.int .i64 (y.2 : Int))) := fun W hG =>
    ⟨⟨(At.below hG.out A1).c3.1, (At.below hG.out A1).c3.2.1⟩, (At.below hG.out A2).c3.1, (At.below hG.out A2).c3.2.1⟩
  clear A1 A2
  refine wp_region_held_drew (S := (fun w' => (w'.cell? ⟨w.heap.size, 0, none⟩ = some (.int .i64 (x.1 : Int)) ∧ w'.cell? ⟨w.heap.size, 1, none⟩ = some (.int .i64 (x.2 : Int))) ∧ w'.cell? ⟨w.heap.size + 1, 0, none⟩ = some (.int .i64 (y.1 : Int)) ∧ w'.cell? ⟨w.heap.size + 1, 1, none⟩ = some (.int .i64 (y.2 : Int)))) (by kernel_rfl) ?_ (fun hHeld => ?_)
  · (try dsimp only); (refine HQ.out _ ?_; ((with_reducible repeat' (first | assumption | refine Gr.drew ?_ | refine Gr.alloc ?_ _ | refine Gr.set ?_ (by first | omega | (simp; omega)) _ _ | exact Gr.refl _)); done))
  refine wpAnyH_take (i := 0) (v := ?vpc0x2) rfl (by kernel_rfl) (by kernel_rfl) (by kernel_rfl) (fun _ _ _ h => h) (Or.inl ⟨by kernel_rfl, ?hpc0x2⟩) (by assumption) ?rpc0x2
  case hpc0x2 => (intro w hSw; (try dsimp only at hSw); go_simp; try with_reducible rfl)
  (try simp only [Act.put, List.getElem_toArray, List.getElem_cons_zero, List.setIfInBounds_toArray, List.set_cons_zero, List.set_cons_succ])
  refine wpAnyH_take (i := 1) (v := ?vpc1x5) rfl (by kernel_rfl) (by kernel_rfl) (by kernel_rfl) (fun _ _ _ h => h) (Or.inl ⟨by kernel_rfl, ?hpc1x5⟩) (by assumption) ?rpc1x5
  case hpc1x5 => (intro w hSw; (try dsimp only at hSw); go_simp; try with_reducible rfl)
  (try simp only [Act.put, List.getElem_toArray, List.getElem_cons_zero, List.getElem_cons_succ, List.setIfInBounds_toArray, List.set_cons_zero, List.set_cons_succ])
  refine wpAnyH_take (i := 2) (v := ?vpc2x8) rfl (by kernel_rfl) (by kernel_rfl) (by kernel_rfl) (fun _ _ _ h => h) (Or.inl ⟨by kernel_rfl, ?hpc2x8⟩) (by assumption) ?rpc2x8
  case hpc2x8 => (intro w hSw; (try dsimp only at hSw); go_simp; try with_reducible rfl)
  (try simp only [Act.put, List.getElem_toArray, List.getElem_cons_zero, List.getElem_cons_succ, List.setIfInBounds_toArray, List.set_cons_zero, List.set_cons_succ])
  refine wpAnyH_take (i := 3) (v := ?vpc3x11) rfl (by kernel_rfl) (by kernel_rfl) (by kernel_rfl) (fun _ _ _ h => h) (Or.inl ⟨by kernel_rfl, ?hpc3x11⟩) (by assumption) ?rpc3x11
  case hpc3x11 => (intro w hSw; (try dsimp only at hSw); go_simp; try with_reducible rfl)
  (try simp only [Act.put, List.getElem_toArray, List.getElem_cons_zero, List.getElem_cons_succ, List.setIfInBounds_toArray, List.set_cons_zero, List.set_cons_succ])
  refine wpAnyH_take (i := 5) (v := ?vpc5x14) rfl (by kernel_rfl) (by kernel_rfl) (by kernel_rfl) (fun _ _ _ h => h) (Or.inl ⟨by kernel_rfl, ?hpc5x14⟩) (by assumption) ?rpc5x14
  case hpc5x14 => (intro w hSw; (try dsimp only at hSw); go_simp; try with_reducible rfl)
  (try simp only [Act.put, List.getElem_toArray, List.getElem_cons_zero, List.getElem_cons_succ, List.setIfInBounds_toArray, List.set_cons_zero, List.set_cons_succ])
  refine wpAnyH_take (i := 6) (v := ?vpc6x17) rfl (by kernel_rfl) (by kernel_rfl) (by kernel_rfl) (fun _ _ _ h => h) (Or.inl ⟨by kernel_rfl, ?hpc6x17⟩) (by assumption) ?rpc6x17
  case hpc6x17 => (intro w hSw; (try dsimp only at hSw); go_simp; try with_reducible rfl)
  (try simp only [Act.put, List.getElem_toArray, List.getElem_cons_zero, List.getElem_cons_succ, List.setIfInBounds_toArray, List.set_cons_zero, List.set_cons_succ])
  refine wpAnyH_take (i := 7) (v := ?vpc7x20) rfl (by kernel_rfl) (by kernel_rfl) (by kernel_rfl) (fun _ _ _ h => h) (Or.inl ⟨by kernel_rfl, ?hpc7x20⟩) (by assumption) ?rpc7x20
  case hpc7x20 => (intro w hSw; (try dsimp only at hSw); go_simp; try with_reducible rfl)
  (try simp only [Act.put, List.getElem_toArray, List.getElem_cons_zero, List.getElem_cons_succ, List.setIfInBounds_toArray, List.set_cons_zero, List.set_cons_succ])
  refine wpAnyH_take (i := 8) (v := ?vpc8x23) rfl (by kernel_rfl) (by kernel_rfl) (by kernel_rfl) (fun _ _ _ h => h) (Or.inl ⟨by kernel_rfl, ?hpc8x23⟩) (by assumption) ?rpc8x23
  case hpc8x23 => (intro w hSw; (try dsimp only at hSw); go_simp; try with_reducible rfl)
  (try simp only [Act.put, List.getElem_toArray, List.getElem_cons_zero, List.getElem_cons_succ, List.setIfInBounds_toArray, List.set_cons_zero, List.set_cons_succ])
  refine wpAnyH_ready (rs := [4]) (by kernel_rfl) (by simp) ?_
  refine AllReadyH.cons rfl (fun K hK => ?_) AllReadyH.nil
  go_simp
  go_wp2_with ((go_at_call 25; with_reducible refine (compare_any _ _ _).mono ?_; rintro e w9 ⟨rfl, rfl⟩))
  refine hK.out _ _ ?_ (fun hHeld => ?_)
  · (try dsimp only); (refine HQ.out _ ?_; ((with_reducible repeat' (first | assumption | refine Gr.drew ?_ | refine Gr.alloc ?_ _ | refine Gr.set ?_ (by first | omega | (simp; omega)) _ _ | exact Gr.refl _)); done))
  clear hK K
  refine wpAnyH_ready (rs := [9]) (by kernel_rfl) (by simp) ?_
  refine AllReadyH.cons rfl (fun K hK => ?_) AllReadyH.nil
  go_simp
  go_wp2_with ((go_at_call 25; with_reducible refine (compare_any _ _ _).mono ?_; rintro e w9 ⟨rfl, rfl⟩))
  refine hK.out _ _ ?_ (fun hHeld => ?_)
  · (try dsimp only); (refine HQ.out _ ?_; ((with_reducible repeat' (first | assumption | refine Gr.drew ?_ | refine Gr.alloc ?_ _ | refine Gr.set ?_ (by first | omega | (simp; omega)) _ _ | exact Gr.refl _)); done))
  clear hK K
  refine wpAnyH_ready (rs := [10]) (by kernel_rfl) (by simp) ?_
  refine AllReadyH.cons rfl (fun K hK => ?_) AllReadyH.nil
  go_simp
  refine hK.out _ _ ?_ (fun hHeld => ?_)
  · (try dsimp only); (refine HQ.out _ ?_; ((with_reducible repeat' (first | assumption | refine Gr.drew ?_ | refine Gr.alloc ?_ _ | refine Gr.set ?_ (by first | omega | (simp; omega)) _ _ | exact Gr.refl _)); done))
  clear hK K
  refine wpAnyH_ready (rs := [11]) (by kernel_rfl) (by simp) ?_
  refine AllReadyH.cons rfl (fun K hK => ?_) AllReadyH.nil
  go_simp
  go_wp2_with ((go_at_call 24; refine (or_any _ _ _ _ (by first | exact At.new2 _ _ _ _ | exact (At.new2 _ _ _ _).drew)).mono ?_; rintro e w9 ⟨rfl, rfl⟩))
  refine hK.out _ _ ?_ (fun hHeld => ?_)
  · (try dsimp only); (refine HQ.out _ ?_; ((with_reducible repeat' (first | assumption | refine Gr.drew ?_ | refine Gr.alloc ?_ _ | refine Gr.set ?_ (by first | omega | (simp; omega)) _ _ | exact Gr.refl _)); done))
  clear hK K
  refine wpAnyH_take (i := 12) (v := ?vpc12x53) rfl (by kernel_rfl) (by kernel_rfl) (by kernel_rfl) (fun _ _ _ h => h) (Or.inl ⟨by kernel_rfl, ?hpc12x53⟩) (by assumption) ?rpc12x53
  case hpc12x53 => (intro w hSw; (try dsimp only at hSw); go_simp; try with_reducible rfl)
  (try simp only [Act.put, List.getElem_toArray, List.getElem_cons_zero, List.getElem_cons_succ, List.setIfInBounds_toArray, List.set_cons_zero, List.set_cons_succ])
  refine wpAnyH_done (by kernel_rfl) ?_ _
  go_wp2
  go_ret
  refine HE.out _ ?_
  repeat (first | exact HG0 | refine GF.drew ?_ | refine GF.alloc ?_ _)
end Go.Proofs.YtddnebgnohlchaaGreatDoor
