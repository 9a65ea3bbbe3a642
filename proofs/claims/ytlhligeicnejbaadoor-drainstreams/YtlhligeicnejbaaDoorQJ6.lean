/-
  What container/heap calls by its interface: which functions they are; cmp.Compare, cmp.Or.; field.Both.; What a call leaves that writes into one block alone.; The queue in memory: drain.queue's Len, Less, Swap.
-/
import Derived.Test.YtlhligeicnejbaaDoorQJ1
import Derived.Handy
import Derived.Test.YtlhligeicnejbaaDoorQJ2
import Derived.Test.YtlhligeicnejbaaDoorQJ3
import Derived.Test.YtlhligeicnejbaaDoorQDrH
import Derived.Deep.RegionHeldLaw
import Derived.Deep.DrawnRows
namespace Go.Proofs.YtlhligeicnejbaaDoor
open Go.RowKit

theorem mPush (p : Addr) (w : World) : (Go.method 275 107 (.pointer (some p)) "Push").run Tryd.prog w = .ok (89, .pointer (some p)) w := by kernel_rfl
theorem mPop (p : Addr) (w : World) : (Go.method 275 107 (.pointer (some p)) "Pop").run Tryd.prog w = .ok (88, .pointer (some p)) w := by kernel_rfl
theorem mLoad (p : Addr) (v : Value) (w : World) (h : w.cell? p = some v) : (loadVar 59 p).run Tryd.prog w = .ok v w := by
  have hu : (loadVar 59 p).run Tryd.prog w = (load p).run Tryd.prog w := by kernel_rfl
  rw [hu]
  simp [go_sem, h]
theorem mLen (p : Addr) (v : Value) (w : World) (h : w.cell? p = some v) : (Go.method 275 107 (.pointer (some p)) "Len").run Tryd.prog w = .ok (38, v) w := by
  have hu : (Go.method 275 107 (.pointer (some p)) "Len").run Tryd.prog w = (do let r ← loadVar 59 p; pure (38, r) : Sem (FuncId × Value)).run Tryd.prog w := by kernel_rfl
  rw [hu]
  simp [go_sem, h, Result.andThen]
theorem mLess (p : Addr) (v : Value) (w : World) (h : w.cell? p = some v) : (Go.method 275 107 (.pointer (some p)) "Less").run Tryd.prog w = .ok (77, v) w := by
  have hu : (Go.method 275 107 (.pointer (some p)) "Less").run Tryd.prog w = (do let r ← loadVar 59 p; pure (77, r) : Sem (FuncId × Value)).run Tryd.prog w := by kernel_rfl
  rw [hu]
  simp [go_sem, h, Result.andThen]
theorem mSwap (p : Addr) (v : Value) (w : World) (h : w.cell? p = some v) : (Go.method 275 107 (.pointer (some p)) "Swap").run Tryd.prog w = .ok (78, v) w := by
  have hu : (Go.method 275 107 (.pointer (some p)) "Swap").run Tryd.prog w = (do let r ← loadVar 59 p; pure (78, r) : Sem (FuncId × Value)).run Tryd.prog w := by kernel_rfl
  rw [hu]
  simp [go_sem, h, Result.andThen]
/-- Which of two is less, as a number. -/
def cmI (x y : Int) : Int := if x < y then -1 else if y < x then 1 else 0
def orI (a b : Int) : Int := if a = 0 then b else a
theorem isNaN_any (x : Int) (w : World) : Calls Tryd.prog 81 #[.int .i64 x] w fun e w' => e = .returned (.bool false) ∧ w' = w := by
  go_enter Tryd.func81, Tryd.ntmps81
  go_wp2
  go_ret
  exact ⟨by simp, rfl⟩
theorem compare_any (x y : Int) (w : World) : Calls Tryd.prog 80 #[.int .i64 x, .int .i64 y] w fun e w' => e = .returned (.int .i64 (cmI x y)) ∧ w' = w := by
  by_cases c1 : x < y
  · have e1 : cmI x y = -1 := by unfold cmI; rw [if_pos c1]
    rw [e1]
    clear e1
    go_enter Tryd.func80, Tryd.ntmps80
    go_wp2
    go_ret
    exact ⟨rfl, rfl⟩
  · by_cases c2 : y < x
    · have e1 : cmI x y = 1 := by unfold cmI; rw [if_neg c1, if_pos c2]
      rw [e1]
      clear e1
      go_enter Tryd.func80, Tryd.ntmps80
      go_wp2
      go_ret
      exact ⟨rfl, rfl⟩
    · have e1 : cmI x y = 0 := by unfold cmI; rw [if_neg c1, if_neg c2]
      rw [e1]
      clear e1
      go_enter Tryd.func80, Tryd.ntmps80
      go_wp2
      go_ret
      exact ⟨rfl, rfl⟩
theorem or_any (B : Nat) (a b : Int) (w : World) (h : At w B [.int .i64 a, .int .i64 b]) : Calls Tryd.prog 79 #[.slice (some ⟨B, 0, none⟩) 2 2] w fun e w' => e = .returned (.int .i64 (orI a b)) ∧ w' = w := by
  obtain ⟨c0, c1⟩ := h.c2
  clear h
  by_cases h1 : a = 0
  · have e1 : orI a b = b := by unfold orI; rw [if_pos h1]
    rw [e1]
    subst h1
    clear e1
    by_cases h2 : b = 0
    · subst h2
      go_enter Tryd.func79, Tryd.ntmps79
      go_wp2
      refine wp_loop_rounds 3 ?_
      rw [rounds_succ]
      go_wp2
      rw [rounds_succ]
      go_wp2
      rw [rounds_succ]
      go_wp2
      go_ret
      exact ⟨rfl, rfl⟩
    · go_enter Tryd.func79, Tryd.ntmps79
      go_wp2
      refine wp_loop_rounds 3 ?_
      rw [rounds_succ]
      go_wp2
      rw [rounds_succ]
      go_wp2
      go_ret
      exact ⟨rfl, rfl⟩
  · have e1 : orI a b = a := by unfold orI; rw [if_neg h1]
    rw [e1]
    clear e1
    go_enter Tryd.func79, Tryd.ntmps79
    go_wp2
    refine wp_loop_rounds 3 ?_
    rw [rounds_succ]
    go_wp2
    go_ret
    exact ⟨rfl, rfl⟩
end Go.Proofs.YtlhligeicnejbaaDoor
namespace Go.Proofs.YtlhligeicnejbaaDoor
open Go.RowKit

/-- Cell by cell. -/
def bothL (h : Int) (l l' : List Int) : List Int := List.zipWith (twoI h) l l'
theorem bothL_len {h : Int} {l l' : List Int} (e : l'.length = l.length) : (bothL h l l').length = l.length := by simp [bothL, e]
/-- So far: the first k are done. -/
def soFar (h : Int) (l l' : List Int) (k : Nat) : List Int := (bothL h l l').take k ++ List.replicate (l.length - k) 0
theorem soFar_set {h : Int} {l l' : List Int} (e : l'.length = l.length) {k : Nat} (hk : k < l.length) : (ir (soFar h l l' k)).set k (.int .i64 (twoI h l[k] (l'[k]'(by omega)))) = ir (soFar h l l' (k + 1)) := by
  have hz : k < (bothL h l l').length := by rw [bothL_len e]; exact hk
  apply List.ext_getElem
  · simp [soFar, bothL, e]; omega
  · intro i h1 h2
    simp only [List.getElem_set, ir, List.getElem_map]
    by_cases c : k = i
    · subst c
      rw [if_pos rfl]
      simp only [soFar]
      rw [List.getElem_append_left (by simp [bothL, e]; omega)]
      simp [bothL]
    · rw [if_neg c]
      simp only [soFar]
      by_cases c2 : i < k
      · rw [List.getElem_append_left (by simp [bothL, e]; omega), List.getElem_append_left (by simp [bothL, e]; omega)]
        simp
      · rw [List.getElem_append_right (by simp [bothL, e]; omega), List.getElem_append_right (by simp [bothL, e]; omega)]
        simp
theorem soFar_zero (h : Int) (l l' : List Int) : soFar h l l' 0 = List.replicate l.length 0 := by simp [soFar]
theorem soFar_end {h : Int} {l l' : List Int} (e : l'.length = l.length) : soFar h l l' l.length = bothL h l l' := by
  simp only [soFar, Nat.sub_self, List.replicate_zero, List.append_nil]
  exact List.take_of_length_le (by rw [bothL_len e]; exact Nat.le_refl _)
theorem At.isl {w : World} {B : Nat} {l : List Int} (h : At w B (ir l)) (cap : Nat) : ISl w (some ⟨B, 0, none⟩) B 0 cap l := by
  refine ISl.mk' (fun i hi => ?_) h.2
  have := (h.1 i (by simpa using hi)).1
  simpa using this
theorem vcode_zero {W H : Int} {l : List Int} (h : vcode W H l = 0) : (1 ≤ W ∧ W ≤ 128) ∧ (1 ≤ H ∧ H ≤ 128) ∧ (l.length : Int) = W * H ∧ ∀ x ∈ l, hiI x := by
  unfold vcode at h
  by_cases c1 : 128 < W ∨ 128 < H
  · rw [if_pos c1] at h; cases h
  · rw [if_neg c1] at h
    by_cases c2 : (W < 1 ∨ H < 1) ∨ ¬ (l.length : Int) = W * H
    · rw [if_pos c2] at h; cases h
    · rw [if_neg c2] at h
      by_cases c3 : ∀ x ∈ l, hiI x
      · exact ⟨⟨by omega, by omega⟩, ⟨by omega, by omega⟩, Classical.not_not.1 (fun hh => c2 (.inr hh)), c3⟩
      · rw [if_neg c3] at h; cases h
theorem acode_zero {W H W' H' : Int} {l l' : List Int} (h : acode W H l W' H' l' = 0) : vcode W H l = 0 ∧ vcode W' H' l' = 0 ∧ W = W' ∧ H = H' := by
  unfold acode at h
  by_cases c1 : vcode W H l = 0
  · rw [if_pos c1] at h
    by_cases c2 : vcode W' H' l' = 0
    · rw [if_pos c2] at h
      by_cases c3 : W = W' ∧ H = H'
      · exact ⟨c1, c2, c3.1, c3.2⟩
      · rw [if_neg c3] at h; cases h
    · rw [if_neg c2] at h; exact absurd h c2
  · rw [if_neg c1] at h; exact absurd h c1
/-- Which error. -/
def bcode (W H : Int) (l : List Int) (W' H' : Int) (l' : List Int) (h : Int) : Nat := if acode W H l W' H' l' = 0 then (if knI h then vcode W H (bothL h l l') else 3) else acode W H l W' H' l'
end Go.Proofs.YtlhligeicnejbaaDoor
namespace Go.Proofs.YtlhligeicnejbaaDoor
open Go.RowKit

/-- Only the block A is other than it was. -/
abbrev Onl (A : Nat) (w w' : World) : Prop := w.grownBy w' (some A)
theorem Onl.refl (A : Nat) (w : World) : Onl A w w := ⟨rfl, rfl, rfl, Nat.le_refl _, fun _ _ _ => rfl⟩
theorem Onl.trans {A : Nat} {a b c : World} (h : Onl A a b) (k : Onl A b c) : Onl A a c :=
  ⟨k.os.trans h.os, k.tape.trans h.tape, k.output.trans h.output, Nat.le_trans h.size k.size, fun i hi hn => (k.block i (Nat.lt_of_lt_of_le hi h.size) hn).trans (h.block i hi hn)⟩
theorem Onl.set {A : Nat} {a b : World} (h : Onl A a b) (o : Nat) (v : Value) : Onl A a (b.setCell ⟨A, o, none⟩ v) := by
  have k := Below.setCell (Below.refl 0 b) (p := ⟨A, o, none⟩) (Nat.zero_le _) v
  refine ⟨k.os.trans h.os, k.tape.trans h.tape, k.output.trans h.output, by simpa using h.size, fun i hi hn => ?_⟩
  · rw [Below.heap_setCell b ⟨A, o, none⟩ v i (fun e => hn (by rw [e]))]; exact h.block i hi hn
theorem Onl.drewN {A : Nat} {a b : World} (h : Onl A a b) (n : Nat) : Onl A a (b.drewN n) := ⟨h.os, h.tape, h.output, h.size, h.block⟩
theorem Onl.drew {A : Nat} {a b : World} (h : Onl A a b) : Onl A a b.drew := ⟨h.os, h.tape, h.output, h.size, h.block⟩
theorem Onl.of {A : Nat} {w a b : World} (h : Below w.heap.size w a) (k : Onl A a b) (hA : w.heap.size ≤ A) : Below w.heap.size w b :=
  Below.grown h k h.size (fun _ e => by cases e; exact hA)
theorem Onl.gr {A : Nat} {w a b : World} (h : Gr w a) (k : Onl A a b) (hA : w.heap.size ≤ A) : Gr w b := Onl.of h.out k hA
theorem Onl.below {A : Nat} {a b c : World} (h : Onl A a b) (k : Below b.heap.size b c) : Onl A a c :=
  h.trans ⟨k.os, k.tape, k.output, k.size, fun i hi _ => k.block i hi⟩
theorem Onl.alloc {A : Nat} {a b : World} (h : Onl A a b) (o : Obj) : Onl A a (b.alloc o) := h.below ((Below.refl _ _).alloc (Nat.le_refl _) o)
theorem At.onl {A B : Nat} {w w' : World} {l : List Value} (h : At w B l) (k : Onl A w w') (hn : B ≠ A) : At w' B l := by
  have hb := k.block B h.2 (fun e => hn (Option.some.inj e))
  exact ⟨fun i hi => ⟨(World.cell?_of_block (w := w) (a := ⟨B, i, none⟩) hb).trans (h.1 i hi).1, (World.frozen?_of_block (w := w) (a := ⟨B, i, none⟩) hb).trans (h.1 i hi).2⟩, Nat.lt_of_lt_of_le h.2 k.size⟩
theorem ISl.onl {A : Nat} {w w' : World} {ad : Option Addr} {b o cap : Nat} {l : List Int} (h : ISl w ad b o cap l) (k : Onl A w w') (hn : b ≠ A) : ISl w' ad b o cap l :=
  ⟨h.row.imp (fun r => by
    have hb := k.block b r.2 (fun e => hn (Option.some.inj e))
    exact ⟨fun i hi => (World.cell?_of_block (w := w) (a := ⟨b, o + i, none⟩) hb).trans (r.1 i hi), Nat.lt_of_lt_of_le r.2 k.size⟩) id, h.ix⟩
theorem At.get {W : World} {B : Nat} {L : List Int} (h : At W B (ir L)) {j : Nat} (hj : j < L.length) : W.cell? ⟨B, j, none⟩ = some (.int .i64 L[j]) ∧ W.frozen? ⟨B, j, none⟩ = false := by
  have := h.1 j (by simpa [ir] using hj)
  simpa [ir] using this
theorem ISl.gcell {W : World} {ad : Option Addr} {b o cap : Nat} {l : List Int} (h : ISl W ad b o cap l) {k : Nat} (hk : k < l.length) : W.cell? ⟨b, o + k, none⟩ = some (.int .i64 (gl l k)) := by
  rw [← gl_get hk]; exact h.cell hk
end Go.Proofs.YtlhligeicnejbaaDoor
namespace Go.Proofs.YtlhligeicnejbaaDoor
open Go.RowKit

abbrev Wcs (p : Wt) : List Value := [.int .i64 p.1, .int .i64 (p.2 : Int)]
def qr (q : List Wt) : List Value := q.flatMap Wcs
theorem qr_snoc (q : List Wt) (p : Wt) : qr q ++ Wcs p = qr (q ++ [p]) := by simp [qr]
theorem qr_len (q : List Wt) : (qr q).length = q.length * 2 := by
  induction q with
  | nil => rfl
  | cons s l ih => simp [qr] at ih ⊢; omega
theorem qr_get : ∀ (q : List Wt) (k : Nat) (_hk : k < q.length) (j : Nat), j < 2 → (qr q)[k * 2 + j]? = (Wcs (wx q k))[j]?
  | s :: q, 0, _, j, hj => by
    match j, hj with
    | 0, _ => rfl
    | 1, _ => rfl
  | s :: q, k + 1, hk, j, hj => by
    have ih := qr_get q k (by simp at hk; omega) j hj
    rw [show (k + 1) * 2 + j = (k * 2 + j) + 2 by omega]
    exact ih
theorem qr_set : ∀ (q : List Wt) (k : Nat) (p : Wt), ((qr q).set (k * 2) (.int .i64 p.1)).set (k * 2 + 1) (.int .i64 (p.2 : Int)) = qr (q.set k p)
  | [], k, p => by simp [qr]
  | s :: q, 0, p => rfl
  | s :: q, k + 1, p => by
    have ih := qr_set q k p
    rw [show (k + 1) * 2 = k * 2 + 1 + 1 by omega]
    show Value.int .i64 s.1 :: Value.int .i64 (s.2 : Int) :: ((qr q).set (k * 2) _).set (k * 2 + 1) _ = Value.int .i64 s.1 :: Value.int .i64 (s.2 : Int) :: qr (q.set k p)
    rw [ih]
theorem qr_take (q : List Wt) (n : Nat) : (qr q).take (n * 2) = qr (q.take n) := by
  induction q generalizing n with
  | nil => simp [qr]
  | cons s q ih =>
    match n with
    | 0 => simp [qr]
    | n + 1 =>
      have := ih n
      rw [show (n + 1) * 2 = n * 2 + 1 + 1 by omega]
      show Value.int .i64 s.1 :: Value.int .i64 (s.2 : Int) :: (qr q).take (n * 2) = Value.int .i64 s.1 :: Value.int .i64 (s.2 : Int) :: qr (q.take n)
      rw [this]
/-- The queue's row, which lies in the block g. -/
def OW (w : World) (base g cap : Nat) (q : List Wt) : Prop := w.ownsRow base 109 2 (.slice (some ⟨g, 0, none⟩) q.length cap) q.length (qr q)
theorem OW.lt {w : World} {base g cap : Nat} {q : List Wt} (h : OW w base g cap q) : base ≤ g ∧ g < w.heap.size := World.ownsRow.lt h g rfl
theorem OW.cells {w : World} {base g cap : Nat} {q : List Wt} (h : OW w base g cap q) {k : Nat} (hk : k < q.length) : (w.cell? ⟨g, k * 2, none⟩ = some (.int .i64 (wx q k).1) ∧ w.cell? ⟨g, k * 2 + 1, none⟩ = some (.int .i64 ((wx q k).2 : Int))) ∧ w.frozen? ⟨g, k * 2, none⟩ = false ∧ w.frozen? ⟨g, k * 2 + 1, none⟩ = false := by
  obtain ⟨h1, h | ⟨g', c', cur, hv, hb, hg, hc, hm, hs, ht⟩⟩ := h
  · obtain ⟨hv, _⟩ := h; cases hv
  · simp only [Value.slice.injEq, Option.some.injEq, Addr.mk.injEq, and_true] at hv
    obtain ⟨rfl, _, rfl⟩ := hv
    have key : ∀ j, (hj : j < 2) → w.cell? ⟨g, k * 2 + j, none⟩ = (Wcs (wx q k))[j]? := by
      intro j hj
      have e1 : (cur.toList.take (q.length * 2))[k * 2 + j]? = (qr q)[k * 2 + j]? := by rw [ht]
      rw [List.getElem?_take, if_pos (by omega), qr_get q k hk j hj] at e1
      simp [World.cell?, hg]
      simpa using e1
    exact ⟨⟨key 0 (by decide), key 1 (by decide)⟩, by simp [World.frozen?, hg], by simp [World.frozen?, hg]⟩
theorem OW.below {w w' : World} {base g cap : Nat} {q : List Wt} (h : OW w base g cap q) (hB : Below w.heap.size w w') : OW w' base g cap q := own_keep h hB
theorem OW.drew {w : World} {base g cap : Nat} {q : List Wt} (h : OW w base g cap q) : OW w.drew base g cap q := h
theorem OW.drewN {w : World} {base g cap : Nat} {q : List Wt} (h : OW w base g cap q) (n : Nat) : OW (w.drewN n) base g cap q := h
theorem OW.put1 {w : World} {base e size g cap n : Nat} {xs : List Value} (h : w.ownsRow base e size (.slice (some ⟨g, 0, none⟩) n cap) n xs) (k : Nat) (u : Value) : (w.setCell ⟨g, k, none⟩ u).ownsRow base e size (.slice (some ⟨g, 0, none⟩) n cap) n (xs.set k u) := by
  obtain ⟨h1, h | ⟨g', c', cur, hv, hb, hg, hc, hm, hs, ht⟩⟩ := h
  · obtain ⟨hv, _⟩ := h; cases hv
  · simp only [Value.slice.injEq, Option.some.injEq, Addr.mk.injEq, and_true, true_and] at hv
    obtain ⟨rfl, rfl⟩ := hv
    refine ⟨by simpa using h1, .inr ⟨g, cap, cur.setIfInBounds k u, rfl, hb, ?_, hc, hm, by simpa using hs, ?_⟩⟩
    · simp [World.setCell, Array.getElem?_modify, hg]
    · rw [Array.toList_setIfInBounds, List.take_set, ht]
theorem OW.put {w : World} {base g cap : Nat} {q : List Wt} (h : OW w base g cap q) (k : Nat) (p : Wt) : OW ((w.setCell ⟨g, k * 2, none⟩ (.int .i64 p.1)).setCell ⟨g, k * 2 + 1, none⟩ (.int .i64 (p.2 : Int))) base g cap (q.set k p) := by
  have := OW.put1 (OW.put1 h (k * 2) (.int .i64 p.1)) (k * 2 + 1) (.int .i64 (p.2 : Int))
  rw [qr_set] at this
  unfold OW
  rw [List.length_set]
  exact this
theorem OW.swap {w : World} {base g cap : Nat} {q : List Wt} (h : OW w base g cap q) (i j : Nat) : OW ((((w.setCell ⟨g, i * 2, none⟩ (.int .i64 (wx q j).1)).setCell ⟨g, i * 2 + 1, none⟩ (.int .i64 ((wx q j).2 : Int))).setCell ⟨g, j * 2, none⟩ (.int .i64 (wx q i).1)).setCell ⟨g, j * 2 + 1, none⟩ (.int .i64 ((wx q i).2 : Int))) base g cap (wsw q i j) := (h.put i (wx q j)).put j (wx q i)
theorem windex (g n cap k : Nat) (hk : k < n) (w : World) : (Instr.indexAt 59 (.slice (some ⟨g, 0, none⟩) n cap) (.int .i64 k)).run Tryd.prog w = .ok (.pointer (some ⟨g, k * 2, none⟩)) w := by
  have hu : Tryd.prog.underlying 59 = some (.slice (Tryd.prog.elem 59)) := by kernel_rfl
  refine (run_indexAt_slice (P := Tryd.prog) (w := w) 59 ⟨g, 0, none⟩ n cap .i64 (k : Int) hu).trans ?_
  rw [if_pos ⟨by omega, by omega⟩]
  have hs : (sizeOf (Tryd.prog.elem 59)).run Tryd.prog w = .ok 2 w := by kernel_rfl
  rw [hs]
  simp [Addr.add]
  intro h; omega
theorem less_wlt (a b : Wt) : decide (orI (cmI a.1 b.1) (cmI (a.2 : Int) (b.2 : Int)) < 0) = decide (wlt a b) := by
  apply decide_eq_decide.2
  unfold orI cmI wlt
  by_cases c1 : a.1 < b.1
  · simp [c1]
  · by_cases c2 : b.1 < a.1
    · simp [c1, c2]; omega
    · have e : a.1 = b.1 := by omega
      by_cases c3 : a.2 < b.2
      · simp [e, c3]
      · by_cases c4 : b.2 < a.2
        · simp [e, c4]; omega
        · simp [e, c3, c4]
theorem len_any (ad : Option Addr) (n cap : Nat) (w : World) : Calls Tryd.prog 38 #[.slice ad n cap] w fun e w' => e = .returned (.int .i64 (n : Int)) ∧ w' = w := by
  go_enter Tryd.func38, Tryd.ntmps38
  go_wp2
  go_ret
  exact ⟨rfl, rfl⟩
end Go.Proofs.YtlhligeicnejbaaDoor
