/-
  drain.queue's Less and Swap.; An int that is appended at a step of a drawn region; what stays.; drain.queue's Push and Pop.; container/heap's up and down over the queue.
-/
import Derived.Test.YtlhligeicnejbaaDoorQJ6
import Derived.Test.YtlhligeicnejbaaDoorQJ2
import Derived.Test.YtlhligeicnejbaaDoorQJ3
import Derived.Deep.AppendLies
import Derived.Deep.RegionHeldLaw
import Derived.Deep.RegionLaw
import Derived.Stop.Asserts
namespace Go.Proofs.YtlhligeicnejbaaDoor
open Go.RowKit
attribute [local go_sem ↓] Go.wp_at_zero Go.wp_at_succ

/-- Four cells of a block. -/
def L4 (w : World) (g a b c d : Nat) (x y z u : Value) : Prop := (w.cell? ⟨g, a, none⟩ = some x ∧ w.cell? ⟨g, b, none⟩ = some y ∧ w.cell? ⟨g, c, none⟩ = some z ∧ w.cell? ⟨g, d, none⟩ = some u) ∧ g < w.heap.size
theorem L4.out {w : World} {g a b c d : Nat} {x y z u : Value} (h : L4 w g a b c d x y z u) : w.cell? ⟨g, a, none⟩ = some x ∧ w.cell? ⟨g, b, none⟩ = some y ∧ w.cell? ⟨g, c, none⟩ = some z ∧ w.cell? ⟨g, d, none⟩ = some u := h.1
theorem L4.drew {w : World} {g a b c d : Nat} {x y z u : Value} (h : L4 w g a b c d x y z u) : L4 w.drew g a b c d x y z u := h
theorem L4.below {w w' : World} {g a b c d : Nat} {x y z u : Value} (h : L4 w g a b c d x y z u) (hB : Below w.heap.size w w') : L4 w' g a b c d x y z u :=
  ⟨⟨(hB.cell (p := ⟨g, a, none⟩) h.2).trans h.1.1, (hB.cell (p := ⟨g, b, none⟩) h.2).trans h.1.2.1, (hB.cell (p := ⟨g, c, none⟩) h.2).trans h.1.2.2.1, (hB.cell (p := ⟨g, d, none⟩) h.2).trans h.1.2.2.2⟩, Nat.lt_of_lt_of_le h.2 hB.size⟩
theorem L4.alloc {w : World} {g a b c d : Nat} {x y z u : Value} (h : L4 w g a b c d x y z u) (o : Obj) : L4 (w.alloc o) g a b c d x y z u := h.below ((Below.refl _ _).alloc (Nat.le_refl _) o)
set_option maxRecDepth 4000 in
set_option maxHeartbeats 8000000 in
theorem less_any {base g cap : Nat} {q : List Wt} (i j n : Nat) (hn : n = q.length) (hi : i < q.length) (hj : j < q.length) (w : World) (h : OW w base g cap q) : Calls Tryd.prog 77 #[.slice (some ⟨g, 0, none⟩) n cap, .int .i64 (i : Int), .int .i64 (j : Int)] w fun e w' => e = .returned (.bool (decide (wlt (wx q i) (wx q j)))) ∧ Gr w w' := by
  obtain ⟨⟨c1, c2⟩, -, -⟩ := h.cells hi
  obtain ⟨⟨c3, c4⟩, -, -⟩ := h.cells hj
  have ix := windex g n cap i (by omega)
  have jx := windex g n cap j (by omega)
  have HL := hidb (less_wlt (wx q i) (wx q j))
  generalize wx q i = p1 at *
  generalize wx q j = p2 at *
  obtain ⟨l1, x1⟩ := p1
  obtain ⟨l2, x2⟩ := p2
  dsimp only at c1 c2 c3 c4 HL
  obtain ⟨iI, hiI'⟩ : ∃ z : Int, z = (i : Int) := ⟨_, rfl⟩
  obtain ⟨jI, hjI'⟩ : ∃ z : Int, z = (j : Int) := ⟨_, rfl⟩
  obtain ⟨y1, hy1⟩ : ∃ z : Int, z = (x1 : Int) := ⟨_, rfl⟩
  obtain ⟨y2, hy2⟩ : ∃ z : Int, z = (x2 : Int) := ⟨_, rfl⟩
  rw [← hiI'] at ix ⊢
  rw [← hjI'] at jx ⊢
  rw [← hy1] at c2 HL
  rw [← hy2] at c4 HL
  obtain ⟨r, hr⟩ : ∃ z : Bool, z = decide (wlt (l1, x1) (l2, x2)) := ⟨_, rfl⟩
  rw [← hr] at HL ⊢
  have KK : L4 w g (i * 2) (i * 2 + 1) (j * 2) (j * 2 + 1) (.int .i64 l1) (.int .i64 y1) (.int .i64 l2) (.int .i64 y2) := ⟨⟨c1, c2, c3, c4⟩, h.lt.2⟩
  clear h hn hi hj hiI' hjI' hy1 hy2 hr c1 c2 c3 c4
  go_enter Tryd.func77, Tryd.ntmps77
  go_upto_region 1 with fail
  go_region_held (fun w' => w'.cell? ⟨g, i * 2, none⟩ = some (.int .i64 l1) ∧ w'.cell? ⟨g, i * 2 + 1, none⟩ = some (.int .i64 y1) ∧ w'.cell? ⟨g, j * 2, none⟩ = some (.int .i64 l2) ∧ w'.cell? ⟨g, j * 2 + 1, none⟩ = some (.int .i64 y2))
    (with_reducible first | exact KK.out | exact KK.drew.out | exact (KK.alloc _).out | exact (KK.alloc _).drew.out | exact (KK.drew.alloc _).out)
    ((first | (go_at_call 80; with_reducible refine (compare_any _ _ _).mono ?_; rintro e w9 ⟨rfl, rfl⟩) | (go_at_call 79; (with_reducible first | refine (or_any _ _ _ _ (At.new2 _ _ _ _)).mono ?_ | refine (or_any _ _ _ _ (At.new2 _ _ _ _).drew).mono ?_); rintro e w9 ⟨rfl, rfl⟩)))
  all_goals
    go_wp2
    go_ret
    exact ⟨by rw [← HL.out]; rfl, by ((with_reducible repeat' (first | assumption | refine Gr.drewN ?_ _ | refine Gr.drew ?_ | refine Gr.alloc ?_ _ | exact Gr.refl _)); done)⟩
set_option maxRecDepth 4000 in
set_option maxHeartbeats 8000000 in
theorem swap_any {base g cap : Nat} {q : List Wt} (i j n : Nat) (hn : n = q.length) (hi : i < q.length) (hj : j < q.length) (w : World) (h : OW w base g cap q) : Calls Tryd.prog 78 #[.slice (some ⟨g, 0, none⟩) n cap, .int .i64 (i : Int), .int .i64 (j : Int)] w fun e w' => e = .returned (.tuple #[]) ∧ OW w' base g cap (wsw q i j) ∧ Onl g w w' := by
  obtain ⟨⟨c1, c2⟩, f1, f2⟩ := h.cells hi
  obtain ⟨⟨c3, c4⟩, f3, f4⟩ := h.cells hj
  have ix := windex g n cap i (by omega)
  have jx := windex g n cap j (by omega)
  have HS := hidb (h.swap i j)
  have HO := hidb ((((Onl.refl g w).set (i * 2) (.int .i64 (wx q j).1)).set (i * 2 + 1) (.int .i64 ((wx q j).2 : Int))).set (j * 2) (.int .i64 (wx q i).1) |>.set (j * 2 + 1) (.int .i64 ((wx q i).2 : Int)))
  generalize wsw q i j = q2 at *
  generalize wx q i = p1 at *
  generalize wx q j = p2 at *
  obtain ⟨l1, x1⟩ := p1
  obtain ⟨l2, x2⟩ := p2
  dsimp only at c1 c2 c3 c4 HS HO
  obtain ⟨iI, hiI'⟩ : ∃ z : Int, z = (i : Int) := ⟨_, rfl⟩
  obtain ⟨jI, hjI'⟩ : ∃ z : Int, z = (j : Int) := ⟨_, rfl⟩
  obtain ⟨y1, hy1⟩ : ∃ z : Int, z = (x1 : Int) := ⟨_, rfl⟩
  obtain ⟨y2, hy2⟩ : ∃ z : Int, z = (x2 : Int) := ⟨_, rfl⟩
  rw [← hiI'] at ix ⊢
  rw [← hjI'] at jx ⊢
  rw [← hy1] at c2 HS HO
  rw [← hy2] at c4 HS HO
  by_cases hij : i = j
  · subst hij
    have e1 : l1 = l2 := by have := c1.symm.trans c3; simpa using this
    have e2 : y1 = y2 := by have := c2.symm.trans c4; simpa using this
    subst e1
    clear hy2
    subst e2
    clear c3 c4
    clear h hn hi hj hiI' hjI' hy1
    go_enter Tryd.func78, Tryd.ntmps78
    go_region_law (fail)
    all_goals
      go_wp2
      refine bodyPost_end (results_none rfl _ _ _) rfl ⟨rfl, ?_, ?_⟩
      · with_reducible first | exact HS.out | exact HS.out.drew
      · with_reducible first | exact HO.out | exact HO.out.drew
  · have n1 : ¬ i * 2 = j * 2 := by omega
    have n2 : ¬ i * 2 = j * 2 + 1 := by omega
    have n3 : ¬ i * 2 + 1 = j * 2 := by omega
    have n4 : ¬ j * 2 = i * 2 := by omega
    have n5 : ¬ j * 2 = i * 2 + 1 := by omega
    have n6 : ¬ j * 2 + 1 = i * 2 := by omega
    clear h hn hi hj hiI' hjI' hy1 hy2
    go_enter Tryd.func78, Tryd.ntmps78
    go_region_law (fail)
    all_goals
      go_wp2
      refine bodyPost_end (results_none rfl _ _ _) rfl ⟨rfl, ?_, ?_⟩
      · with_reducible first | exact HS.out | exact HS.out.drew
      · with_reducible first | exact HO.out | exact HO.out.drew
end Go.Proofs.YtlhligeicnejbaaDoor
namespace Go.Proofs.YtlhligeicnejbaaDoor
open Go.RowKit

theorem At.belowN {n : Nat} {W w' : World} {B : Nat} {l : List Value} (hB : Below n W w') (hn : B < n) (hs : W.heap.size ≤ w'.heap.size) (h : At W B l) : At w' B l :=
  ⟨fun i hi => ⟨(hB.cell (p := ⟨B, i, none⟩) hn).trans (h.1 i hi).1, (hB.frozen (p := ⟨B, i, none⟩) hn).trans (h.1 i hi).2⟩, Nat.lt_of_lt_of_le h.2 hs⟩
/-- An append to a row of whole numbers, at a step of a region that draws its order. -/
theorem step_i1 {ops : Array Oper} {o : Oper} {a : Act} {K : Act → World → Prop} {Q : Exit → Act → World → Prop} {Ep : Prop} (W : World) (b0 : Nat) (v : Value) (l : List Int) (r : Int) (n B : Nat) (s x : Operand) (hgd : o.guard = none)
    (ho : o.op = .call { callee := .builtin .append, args := #[s, x], argTypes := #[30, 30] }) (hs : a.eval s = v) (hx : a.eval x = .slice (some ⟨B, 0, none⟩) 1 1) (hn : l.length = n) (hl : n ≤ 20000)
    (hO : W.ownsRow b0 3 1 v n (ir l)) (hN : At W B [.int .i64 r]) (hb : b0 ≤ W.heap.size)
    (h : ∀ g cap w', w'.ownsRow b0 3 1 (.slice (some ⟨g, 0, none⟩) (n + 1) cap) (n + 1) (ir (l ++ [r])) → W.grownBy w' v.ownBlock → K (a.put o.dst (.slice (some ⟨g, 0, none⟩) (n + 1) cap)) w') :
    if Region.wanted o (yielded ops a.tmps) = true then Oper.wp Tryd.prog o a W K Q else Ep := by
  have hml : 30000 ≤ maxLen := by decide
  obtain ⟨i0, hi, hz0, hz1, hz2⟩ := info_parts infoJ
  refine step_append_lies W hgd s x _ ho b0 _ i0 (.int .i64 0) 1 8 undI hi hz0 hz1 hz2 rfl (by decide) v n (ir l) hs hO ⟨B, 0, none⟩ 1 1 [.int .i64 r] hx rfl ?_ ?_ (by decide) (by omega) (by omega) hb _ rfl ?_
  · intro j u hu
    match j with
    | 0 => simp at hu; subst hu; exact (hN.1 0 (by simp)).1
    | j + 1 => simp at hu
  · intro u hu; simp at hu; subst hu; rfl
  · intro g cap w' hown hgrow _ _
    rw [ir_snoc] at hown
    exact h g cap w' hown hgrow
theorem own_set {w : World} {base e size n : Nat} {v : Value} {xs : List Value} (h : w.ownsRow base e size v n xs) {c : Nat} (hc : c < base) (o : Nat) (u : Value) : (w.setCell ⟨c, o, none⟩ u).ownsRow base e size v n xs := by
  have k := Below.setCell (Below.refl 0 w) (p := ⟨c, o, none⟩) (Nat.zero_le _) u
  refine h.kept (row := some c) ⟨k.os, k.tape, k.output, by simp, fun i hi hn => ?_⟩ (.inr ?_)
  · exact Below.heap_setCell w ⟨c, o, none⟩ u i (fun e => hn (by rw [e]))
  · intro e
    have := (h.lt c e).1
    omega
theorem app_facts {w wr W w2 : World} {base Wt D n : Nat} {v : Value} {lw ld xs : List Value} (hO : wr.ownsRow base 3 1 v n xs) (hg : W.grownBy w2 v.ownBlock) (hW : Gr wr W) (hb : base ≤ wr.heap.size) (hw : w.heap.size ≤ base) (lW : Wt < base) (lD : D < base) (AW : At wr Wt lw) (AD : At wr D ld) (G : Gr w wr) : At w2 Wt lw ∧ At w2 D ld ∧ Gr w w2 ∧ base ≤ w2.heap.size := by
  have hs := hW.out.size
  have hs2 := hg.size
  have hBb := (Below.refl base W).grown hg (by omega) (fun k hk => (hO.lt k hk).1)
  exact ⟨At.belowN hBb lW hs2 (At.below hW.out AW), At.belowN hBb lD hs2 (At.below hW.out AD), Below.grown (Gr.step G hW.out).out hg (by have := G.out.size; omega) (fun k hk => Nat.le_trans hw (hO.lt k hk).1), by omega⟩
theorem At.put2c {W : World} {B : Nat} {a b c : Value} (h : At W B [a, b, c]) (u : Value) : At (W.setCell ⟨B, 2, none⟩ u) B [a, b, u] := h.put 2 u
theorem At.new1d' (W : World) (a : Value) (t : Nat) : At (W.drew.alloc (.cells #[a] t)) W.heap.size [a] := At.new1 W.drew a t
theorem At.new1dd' (W : World) (a : Value) (t : Nat) : At (W.drew.drew.alloc (.cells #[a] t)) W.heap.size [a] := At.new1 W.drew.drew a t
theorem own_rs2 {w : World} {base : Nat} {v : Value} {n : Nat} {l : List Int} (h : w.ownsRow base 3 1 v n (ir l)) (h0 : 1 ≤ l.length) : ∃ g cap, v = .slice (some ⟨g, 0, none⟩) l.length cap ∧ Rs w g 0 cap l := by
  have hn : n = l.length := by have := h.1; simp [ir] at this; omega
  subst hn
  obtain ⟨h1, h | ⟨g, cap, cur, hv, hb, hg, hc, hm, hs, ht⟩⟩ := h
  · obtain ⟨_, h2⟩ := h; omega
  · refine ⟨g, cap, hv, ?_, ?_, ?_⟩
    · intro i hi
      have e : cur.toList[i]? = some (.int .i64 l[i]) := by
        have : (cur.toList.take (l.length * 1))[i]? = (ir l)[i]? := by rw [ht]
        rw [List.getElem?_take] at this
        rw [if_pos (by omega)] at this
        rw [this]
        simp [ir, hi]
      simp [World.cell?, hg]
      simpa using e
    · rcases Nat.lt_or_ge g w.heap.size with c | c
      · exact c
      · rw [Array.getElem?_eq_none c] at hg; cases hg
    · omega
end Go.Proofs.YtlhligeicnejbaaDoor
namespace Go.Proofs.YtlhligeicnejbaaDoor
open Go.RowKit
attribute [local go_sem ↓] Go.wp_at_zero Go.wp_at_succ

/-- Only the block F and the row of v are other than they were. -/
structure Fr (F : Nat) (v : Value) (w w' : World) : Prop where
  os : w'.os = w.os
  tape : w'.tape = w.tape
  output : w'.output = w.output
  size : w.heap.size ≤ w'.heap.size
  block : ∀ k, k < w.heap.size → k ≠ F → v.ownBlock ≠ some k → w'.heap[k]? = w.heap[k]?
theorem Fr.refl (F : Nat) (v : Value) (w : World) : Fr F v w w := ⟨rfl, rfl, rfl, Nat.le_refl _, fun _ _ _ _ => rfl⟩
theorem Fr.below {F : Nat} {v : Value} {a b c : World} (h : Fr F v a b) (k : Below b.heap.size b c) : Fr F v a c :=
  ⟨k.os.trans h.os, k.tape.trans h.tape, k.output.trans h.output, Nat.le_trans h.size k.size, fun i hi h1 h2 => (k.block i (Nat.lt_of_lt_of_le hi h.size)).trans (h.block i hi h1 h2)⟩
theorem Fr.alloc {F : Nat} {v : Value} {a b : World} (h : Fr F v a b) (o : Obj) : Fr F v a (b.alloc o) := h.below ((Below.refl _ _).alloc (Nat.le_refl _) o)
theorem Fr.drew {F : Nat} {v : Value} {a b : World} (h : Fr F v a b) : Fr F v a b.drew := ⟨h.os, h.tape, h.output, h.size, h.block⟩
theorem Fr.drewN {F : Nat} {v : Value} {a b : World} (h : Fr F v a b) (n : Nat) : Fr F v a (b.drewN n) := ⟨h.os, h.tape, h.output, h.size, h.block⟩
theorem Fr.set {F : Nat} {v : Value} {a b : World} (h : Fr F v a b) (o : Nat) (u : Value) : Fr F v a (b.setCell ⟨F, o, none⟩ u) := by
  have k := Below.setCell (Below.refl 0 b) (p := ⟨F, o, none⟩) (Nat.zero_le _) u
  refine ⟨k.os.trans h.os, k.tape.trans h.tape, k.output.trans h.output, by simpa using h.size, fun i hi h1 h2 => ?_⟩
  rw [Below.heap_setCell b ⟨F, o, none⟩ u i h1]; exact h.block i hi h1 h2
theorem Fr.grown {F : Nat} {v : Value} {a b c : World} (h : Fr F v a b) (k : b.grownBy c v.ownBlock) : Fr F v a c :=
  ⟨k.os.trans h.os, k.tape.trans h.tape, k.output.trans h.output, Nat.le_trans h.size k.size, fun i hi h1 h2 => (k.block i (Nat.lt_of_lt_of_le hi h.size) (fun e => h2 e.symm)).trans (h.block i hi h1 h2)⟩
/-- Two such steps: the row of the second one is the first one's, or new. -/
theorem Fr.trans {F : Nat} {v v' : Value} {a b c : World} (h : Fr F v a b) (k : Fr F v' b c) (hv : ∀ i, v'.ownBlock = some i → v.ownBlock = some i ∨ a.heap.size ≤ i) : Fr F v a c :=
  ⟨k.os.trans h.os, k.tape.trans h.tape, k.output.trans h.output, Nat.le_trans h.size k.size, fun i hi h1 h2 => (k.block i (Nat.lt_of_lt_of_le hi h.size) h1 (fun e => by
    rcases hv i e with e1 | e1
    · exact h2 e1
    · omega)).trans (h.block i hi h1 h2)⟩
theorem Onl.fr {F g n cap : Nat} {w w' : World} (h : Onl g w w') : Fr F (.slice (some ⟨g, 0, none⟩) n cap) w w' :=
  ⟨h.os, h.tape, h.output, h.size, fun i hi _ h2 => h.block i hi (fun e => h2 e.symm)⟩
theorem Onl.frF {F : Nat} {v : Value} {w w' : World} (h : Onl F w w') : Fr F v w w' :=
  ⟨h.os, h.tape, h.output, h.size, fun i hi h1 _ => h.block i hi (fun e => h1 (Option.some.inj e))⟩
/-- A row of cells that such a step leaves alone. -/
theorem At.fr {F B : Nat} {v : Value} {w w' : World} {l : List Value} (h : At w B l) (k : Fr F v w w') (h1 : B ≠ F) (h2 : v.ownBlock ≠ some B) : At w' B l := by
  have hb := k.block B h.2 h1 h2
  exact ⟨fun i hi => ⟨(World.cell?_of_block (w := w) (a := ⟨B, i, none⟩) hb).trans (h.1 i hi).1, (World.frozen?_of_block (w := w) (a := ⟨B, i, none⟩) hb).trans (h.1 i hi).2⟩, Nat.lt_of_lt_of_le h.2 k.size⟩
theorem Fr.gr {F : Nat} {v : Value} {w a b : World} (h : Gr w a) (k : Fr F v a b) (hF : w.heap.size ≤ F) (hv : ∀ i, v.ownBlock = some i → w.heap.size ≤ i) : Gr w b :=
  ⟨k.os.trans h.out.os, k.tape.trans h.out.tape, k.output.trans h.out.output, Nat.le_trans h.out.size k.size, fun i hi => (k.block i (Nat.lt_of_lt_of_le hi h.out.size) (by omega) (fun e => by have := hv i e; omega)).trans (h.out.block i hi)⟩
theorem infoW : (Tryd.prog.info? 109).map (fun i => (i.zero, i.size, i.bytes)) = some (some (.agg #[.int .i64 0, .int .i64 0]), 2, 16) := by kernel_rfl
theorem undW : Tryd.prog.underlying 59 = some (.slice 109) := by kernel_rfl
theorem news_AtW {W : World} {B : Nat} {l : List Value} (h : At W B l) : ∀ j u, l[j]? = some u → W.cell? ((⟨B, 0, none⟩ : Addr).add j) = some u := by
  intro j u hu
  have hadd : (⟨B, 0, none⟩ : Addr).add j = ⟨B, j, none⟩ := by unfold Addr.add; split <;> simp_all
  obtain ⟨hj, rfl⟩ := List.getElem?_eq_some_iff.1 hu
  rw [hadd]
  exact (h.1 j hj).1
/-- An append to the queue, at a step of a region that draws its order. -/
theorem step_w2 {ops : Array Oper} {o : Oper} {a : Act} {K : Act → World → Prop} {Q : Exit → Act → World → Prop} {Ep : Prop} (W : World) (b0 : Nat) (v : Value) (l : List Wt) (r : Wt) (n B : Nat) (s x : Operand) (hgd : o.guard = none)
    (ho : o.op = .call { callee := .builtin .append, args := #[s, x], argTypes := #[59, 59] }) (hs : a.eval s = v) (hx : a.eval x = .slice (some ⟨B, 0, none⟩) 1 1) (hn : l.length = n) (hl : n ≤ 20000)
    (hO : W.ownsRow b0 109 2 v n (qr l)) (hN : At W B (Wcs r)) (hb : b0 ≤ W.heap.size)
    (h : ∀ g cap w', w'.ownsRow b0 109 2 (.slice (some ⟨g, 0, none⟩) (n + 1) cap) (n + 1) (qr (l ++ [r])) → W.grownBy w' v.ownBlock → (v.ownBlock = some g ∨ g = W.heap.size) → K (a.put o.dst (.slice (some ⟨g, 0, none⟩) (n + 1) cap)) w') :
    if Region.wanted o (yielded ops a.tmps) = true then Oper.wp Tryd.prog o a W K Q else Ep := by
  have hml : 100000 ≤ maxLen := by decide
  have ones : ∀ u ∈ Wcs r, u.oneCell' = true := by
    intro u hu
    simp only [List.mem_cons, List.not_mem_nil, or_false] at hu
    rcases hu with rfl | rfl <;> rfl
  obtain ⟨i0, hi, hz0, hz1, hz2⟩ := info_parts infoW
  refine step_append_lies W hgd s x _ ho b0 _ i0 (.agg #[.int .i64 0, .int .i64 0]) 2 16 undW hi hz0 hz1 hz2 rfl (by decide) v n (qr l) hs hO ⟨B, 0, none⟩ 1 1 (Wcs r) hx rfl (news_AtW hN) ones (by decide) (by omega) (by omega) hb _ rfl ?_
  intro g cap w' hown hgrow hat _
  rw [qr_snoc] at hown
  exact h g cap w' hown hgrow hat
theorem own_shape2 {w : World} {base : Nat} {v : Value} {n e : Nat} {xs : List Value} (h : w.ownsRow base e 2 v n xs) : ∃ ad cap, v = .slice ad n cap := by
  obtain ⟨_, ⟨rfl, rfl⟩ | ⟨g, cap, cur, hv, _⟩⟩ := h
  · exact ⟨none, 0, rfl⟩
  · exact ⟨_, _, hv⟩
theorem At.c6 {W : World} {B : Nat} {a b c d e f g : Value} (h : At W B [a, b, c, d, e, f, g]) : W.cell? ⟨B, 6, none⟩ = some g ∧ W.frozen? ⟨B, 6, none⟩ = false := h.1 6 (by simp)
theorem At.p6 {W : World} {B : Nat} {a b c d e f g : Value} (h : At W B [a, b, c, d, e, f, g]) (u : Value) : At (W.setCell ⟨B, 6, none⟩ u) B [a, b, c, d, e, f, u] := h.put 6 u
theorem asrtW (v : Value) (xT : TypeId) (w : World) : (Instr.typeAssert (.iface 109 v) xT 109 true).run Tryd.prog w = .ok (.tuple #[v, .bool true]) w := by kernel_rfl
theorem ge_alloc {W : World} {o : Obj} {g : Nat} (h : g = (W.alloc o).heap.size) : W.heap.size ≤ g := by rw [h]; simp
theorem At.grow {W w2 : World} {B : Nat} {l : List Value} {row : Option Nat} (h : At W B l) (hg : W.grownBy w2 row) (hne : row ≠ some B) : At w2 B l := by
  have hb := hg.block B h.2 (fun e => hne e.symm)
  exact ⟨fun i hi => ⟨(World.cell?_of_block (w := W) (a := ⟨B, i, none⟩) hb).trans (h.1 i hi).1, (World.frozen?_of_block (w := W) (a := ⟨B, i, none⟩) hb).trans (h.1 i hi).2⟩, Nat.lt_of_lt_of_le h.2 hg.size⟩
set_option maxRecDepth 4000 in
set_option maxHeartbeats 8000000 in
theorem qpush_any {F base n : Nat} {a b c d e f v : Value} {q : List Wt} (p : Wt) (w : World) (hA : At w F [a, b, c, d, e, f, v]) (hO : w.ownsRow base 109 2 v n (qr q)) (hq : q.length = n) (hn : n ≤ 20000) (hF : F < base) (hb : base ≤ w.heap.size) : Calls Tryd.prog 89 #[.pointer (some ⟨F, 6, none⟩), .iface 109 (.agg #[.int .i64 p.1, .int .i64 (p.2 : Int)])] w fun r w' => r = .returned (.tuple #[]) ∧ ∃ g cap, At w' F [a, b, c, d, e, f, .slice (some ⟨g, 0, none⟩) (n + 1) cap] ∧ OW w' base g cap (q ++ [p]) ∧ Fr F v w w' ∧ (v.ownBlock = some g ∨ w.heap.size ≤ g) := by
  obtain ⟨x, y⟩ := p
  obtain ⟨ad1, cap1, rfl⟩ := own_shape2 hO
  have hlt := hA.lt
  dsimp only
  have A1 := At.new2 w (.int .i64 x) (.int .i64 (y : Int)) 109
  have HX : Hid ((w.alloc (.cells #[.int .i64 x, .int .i64 (y : Int)] 109)).ownsRow base 109 2 (.slice ad1 n cap1) n (qr q) ∧ At (w.alloc (.cells #[.int .i64 x, .int .i64 (y : Int)] 109)) F [a, b, c, d, e, f, .slice ad1 n cap1] ∧ Fr F (.slice ad1 n cap1) w (w.alloc (.cells #[.int .i64 x, .int .i64 (y : Int)] 109))) := ⟨hO.alloc _, hA.alloc _, (Fr.refl F _ w).alloc _⟩
  have hs : (w.alloc (.cells #[.int .i64 x, .int .i64 (y : Int)] 109)).heap.size = w.heap.size + 1 := by simp
  have asW := asrtW
  go_enter Tryd.func89, Tryd.ntmps89
  go_upto_region 2 with fail
  generalize w.alloc (.cells #[.int .i64 x, .int .i64 (y : Int)] 109) = W1 at *
  obtain ⟨d0, d1⟩ := A1.c2
  obtain ⟨c6, f6⟩ := HX.out.2.1.c6
  have HB := hidb (show q.length = n ∧ n ≤ 20000 ∧ F < base ∧ base ≤ w.heap.size ∧ F < w.heap.size ∧ W1.heap.size = w.heap.size + 1 from ⟨hq, hn, hF, hb, hlt, hs⟩)
  have lF : F < W1.heap.size := by omega
  have HAf : Hid ((Value.slice ad1 n cap1).ownBlock ≠ some F) := fun e2 => by have := (hO.lt F e2).1; omega
  clear hO hA hq hn hF hb hlt hs A1
  go_region_law (refine step_w2 _ base (.slice ad1 n cap1) q (x, y) n W1.heap.size _ _ rfl rfl rfl rfl HB.out.1 HB.out.2.1 (HX.out.1.alloc _) (At.new2 _ _ _ _) (by have := HB.out; simp; omega) ?_; intro g cap2 w2 hown2 hgrow2 hat2; have HZ := hidb (show At w2 F [a, b, c, d, e, f, .slice ad1 n cap1] ∧ Fr F (.slice ad1 n cap1) w w2 ∧ w2.ownsRow base 109 2 (.slice (some ⟨g, 0, none⟩) (n + 1) cap2) (n + 1) (qr (q ++ [(x, y)])) ∧ ((Value.slice ad1 n cap1).ownBlock = some g ∨ W1.heap.size ≤ g) from ⟨(HX.out.2.1.drew.alloc _).grow hgrow2 HAf.out, (HX.out.2.2.drew.alloc _).grown hgrow2, hown2, hat2.imp id ge_alloc⟩); have e6 := HZ.out.1.c6.1; have g6 := HZ.out.1.c6.2; clear hown2 hgrow2 hat2 c6 f6 d0 d1)
  all_goals
    go_wp2
    refine bodyPost_end (results_none rfl _ _ _) rfl ⟨rfl, g, cap2, ?_, ?_, ?_, ?_⟩
    · exact HZ.out.1.p6 _
    · unfold OW
      rw [List.length_append, HB.out.1]
      exact own_set HZ.out.2.2.1 HB.out.2.2.1 6 _
    · exact HZ.out.2.1.set 6 _
    · exact HZ.out.2.2.2.imp id (fun h => by have := HB.out; omega)
theorem islW (g n cap k : Nat) (h2 : k ≤ cap) (w : World) : (Instr.slice 59 (.slice (some ⟨g, 0, none⟩) n cap) none (some (.int .i64 (k : Int))) none).run Tryd.prog w = .ok (.slice (some ⟨g, 0, none⟩) k cap) w := by
  have hu : Tryd.prog.underlying 59 = some (.slice (Tryd.prog.elem 59)) := by kernel_rfl
  have hs : (sizeOf (Tryd.prog.elem 59)).run Tryd.prog w = .ok 2 w := by kernel_rfl
  rw [run_slice_h w 59 _ _ _ hu .i64 _ (by omega) (by omega), hs]
  simp [Result.andThen, sliced, Addr.add]
theorem OW.cap {w : World} {base g cap : Nat} {q : List Wt} (h : OW w base g cap q) : q.length ≤ cap := by
  obtain ⟨h1, h | ⟨g', c', cur, hv, hb, hg, hc, hm, hs, ht⟩⟩ := h
  · obtain ⟨hv, _⟩ := h; cases hv
  · simp only [Value.slice.injEq, Option.some.injEq, Addr.mk.injEq, and_true] at hv
    obtain ⟨rfl, _, rfl⟩ := hv
    exact hc
theorem OW.take {w : World} {base g cap : Nat} {q : List Wt} (h : OW w base g cap q) (n : Nat) (hn : n ≤ q.length) : OW w base g cap (q.take n) := by
  obtain ⟨h1, h | ⟨g', c', cur, hv, hb, hg, hc, hm, hs, ht⟩⟩ := h
  · obtain ⟨hv, _⟩ := h; cases hv
  · simp only [Value.slice.injEq, Option.some.injEq, Addr.mk.injEq, and_true] at hv
    obtain ⟨rfl, _, rfl⟩ := hv
    have hl : (q.take n).length = n := by rw [List.length_take]; omega
    refine ⟨by rw [qr_len], .inr ⟨g, cap, cur, rfl, hb, hg, by omega, hm, hs, ?_⟩⟩
    rw [hl, ← qr_take, ← ht, List.take_take]
    congr 1
    omega
set_option maxRecDepth 4000 in
set_option maxHeartbeats 8000000 in
theorem qpop_any {F base g cap n : Nat} {a b c d e f : Value} {q : List Wt} (w : World) (hA : At w F [a, b, c, d, e, f, .slice (some ⟨g, 0, none⟩) (n + 1) cap]) (hO : OW w base g cap q) (hq : q.length = n + 1) (hn : n ≤ 20000) (hF : F < base) : Calls Tryd.prog 88 #[.pointer (some ⟨F, 6, none⟩)] w fun r w' => r = .returned (.iface 109 (.agg #[.int .i64 (wx q n).1, .int .i64 ((wx q n).2 : Int)])) ∧ At w' F [a, b, c, d, e, f, .slice (some ⟨g, 0, none⟩) n cap] ∧ OW w' base g cap (q.take n) ∧ Onl F w w' := by
  obtain ⟨c6, f6⟩ := hA.c6
  obtain ⟨⟨c1, c2⟩, -, -⟩ := hO.cells (k := n) (by omega)
  have hcap := hO.cap
  have hlt := hA.lt
  have hg := hO.lt
  have ix := windex g (n + 1) cap n (by omega)
  have sx := islW g (n + 1) cap n (by omega)
  have e1 : IntKind.i64.wrap (((n + 1 : Nat) : Int) - 1) = (n : Int) := by rw [show ((n + 1 : Nat) : Int) - 1 = (n : Int) by omega]; exact wrap_in (by omega) (by omega)
  have HT : Hid ((w.setCell ⟨F, 6, none⟩ (.slice (some ⟨g, 0, none⟩) n cap)).ownsRow base 109 2 (.slice (some ⟨g, 0, none⟩) (q.take n).length cap) (q.take n).length (qr (q.take n))) := own_set (hO.take n (by omega)) hF 6 (.slice (some ⟨g, 0, none⟩) n cap)
  have HX := hidb (hA.p6 (.slice (some ⟨g, 0, none⟩) n cap))
  have nF : ¬ F = w.heap.size := by omega
  have nF' : ¬ w.heap.size = F := by omega
  generalize wx q n = p at *
  obtain ⟨x, y⟩ := p
  dsimp only at c1 c2 ⊢
  generalize hm : ((n + 1 : Nat) : Int) = nI at *
  obtain ⟨n1, hn1⟩ : ∃ z, z = n + 1 := ⟨_, rfl⟩
  clear hcap hg hq hn hF
  go_enter Tryd.func88, Tryd.ntmps88
  go_wp2
  go_ret
  refine ⟨rfl, ?_, ?_, ?_⟩
  · exact HX.out.alloc _
  · exact World.ownsRow.alloc HT.out _
  · exact ((Onl.refl F w).set 6 _).alloc _
end Go.Proofs.YtlhligeicnejbaaDoor
namespace Go.Proofs.YtlhligeicnejbaaDoor
open Go.RowKit

theorem half {k : Nat} (h0 : 0 < k) (hk : k ≤ 20001) : ∃ z : Int, IntKind.i64.wrap ((k : Int) - 1) = z ∧ z.tdiv 2 = (((k - 1) / 2 : Nat) : Int) ∧ IntKind.i64.wrap (((k - 1) / 2 : Nat) : Int) = (((k - 1) / 2 : Nat) : Int) := by
  refine ⟨((k - 1 : Nat) : Int), ?_, rfl, ?_⟩
  · rw [show (k : Int) - 1 = ((k - 1 : Nat) : Int) by omega]; exact wrap_in (by omega) (by omega)
  · generalize hq : (k - 1) / 2 = p
    exact wrap_in (by omega) (by omega)
set_option maxRecDepth 4000 in
set_option maxHeartbeats 8000000 in
theorem up_any {F base g cap n : Nat} {a b c d e f : Value} {q : List Wt} (j : Nat) (w : World) (hA : At w F [a, b, c, d, e, f, .slice (some ⟨g, 0, none⟩) n cap]) (hO : OW w base g cap q) (hq : n = q.length) (hj : HUp q j) (hn : n ≤ 20001) (hF : F < base) : Calls Tryd.prog 57 #[.iface 107 (.pointer (some ⟨F, 6, none⟩)), .int .i64 (j : Int)] w fun r w' => r = .returned (.tuple #[]) ∧ ∃ q', q'.Perm q ∧ Hp q' q'.length ∧ OW w' base g cap q' ∧ Onl g w w' := by
  have HA := hidb hA
  have HB := hidb (show n = q.length ∧ n ≤ 20001 ∧ F < base ∧ F ≠ g from ⟨hq, hn, hF, by have := hO.lt; omega⟩)
  have HO := hidb hO
  have HJ := hidb hj
  clear hA hO hq hj hn hF
  go_enter Tryd.func57, Tryd.ntmps57
  go_wp2
  go_loopw [1] (fun t wr => ∃ (k : Nat) (q1 : List Wt), t = .int .i64 (k : Int) ∧ Hid (HUp q1 k ∧ q1.Perm q ∧ OW wr base g cap q1 ∧ Onl g w wr)) (fun t _ => (intOf t).toNat)
  case atStart => exact ⟨j, q, rfl, hidb ⟨HJ.out, List.Perm.refl _, HO.out, Onl.refl g w⟩⟩
  case round =>
    obtain ⟨k, q1, rfl, E⟩ := hrel
    have hA1 := HA.out.onl E.out.2.2.2 HB.out.2.2.2
    have c6 := hA1.c6.1
    by_cases h0 : k = 0
    · subst h0
      have e1 : IntKind.i64.wrap (((0 : Nat) : Int) - 1) = -1 := by decide
      clear hA1
      go_wp2
      refine bodyPost_end (results_none rfl _ _ _) rfl ⟨rfl, q1, E.out.2.1, E.out.1.done (.inl rfl), E.out.2.2.1, E.out.2.2.2⟩
    · have hl := E.out.2.1.length_eq
      have hlt := E.out.1.lt
      have hb := HB.out
      obtain ⟨z, e1, e2, e3⟩ := half (k := k) (by omega) (by omega)
      have HP := hidb (show (k - 1) / 2 < k by omega)
      have HL := hidb (less_any k ((k - 1) / 2) n (by omega) hlt (by omega) wr E.out.2.2.1)
      have HS := hidb (fun W (hB : Gr wr W) => swap_any ((k - 1) / 2) k n (by omega) (by omega) hlt W (E.out.2.2.1.below hB.out))
      have HSt := hidb (fun hw => E.out.1.step (by omega) hw)
      have HSp := hidb (wsw_perm (q := q1) (i := (k - 1) / 2) (j := k) (by omega) hlt)
      have HDn := hidb (fun hw => E.out.1.done (.inr hw))
      have hne : ¬ (((k - 1) / 2 : Nat) : Int) = (k : Int) := by omega
      generalize (k - 1) / 2 = p at *
      have mL := mLess _ _ _ c6
      have HA1 := hidb hA1
      clear hA1 hl hlt hb
      by_cases hw : wlt (wx q1 k) (wx q1 p)
      · rw [decide_eq_true hw] at HL
        have HW := hidb hw
        clear hw
        go_wp2_with fail
        refine HL.out.mono ?_
        rintro r w2 ⟨rfl, hB2⟩
        have mS := mSwap _ _ _ (At.below hB2.out HA1.out).c6.1
        go_wp2_with fail
        refine (HS.out _ hB2).mono ?_
        rintro r w3 ⟨rfl, hO3, hN3⟩
        go_wp2
        go_roundw
        case rel => exact ⟨p, _, rfl, hidb ⟨HSt.out HW.out, HSp.out.trans E.out.2.1, hO3, (E.out.2.2.2.below hB2.out).trans hN3⟩⟩
        case measure => simp [intOf]; exact HP.out
      · rw [decide_eq_false hw] at HL
        have HW := hidb (HDn.out hw)
        clear hw
        go_wp2_with fail
        refine HL.out.mono ?_
        rintro r w2 ⟨rfl, hB2⟩
        go_wp2
        refine bodyPost_end (results_none rfl _ _ _) rfl ⟨rfl, q1, E.out.2.1, HW.out, E.out.2.2.1.below hB2.out, E.out.2.2.2.below hB2.out⟩
end Go.Proofs.YtlhligeicnejbaaDoor
