/-
  Contracts of the library, laid at this dump by the shelf's own command, in its plain mode: slices_Reverse_int, slices_Reverse_int_empty.; Surveys: rows of ways cut, turned about, appended to beside another.
-/
import Derived.Shelf.Bits.Mul64
import Derived.Shelf.Slices.Reverse
import Derived.Test.YtecmkjefoppbiaaDoorProg
import Derived.Test.YtecmkjefoppbiaaDoorQJ18
import Derived.Sort.OwnSortedInts
namespace Go.Proofs
open Go.Shelf
def Tryd.lays112_ren : Go.Shelf.Ren := ⟨fun | 112 => 26 | n => n, fun | 28 => 28 | 3 => 3 | 4 => 4 | 0 => 0 | n => n, fun | n => n⟩
theorem Tryd.lays112 : Go.Proofs.Lays.n112 Tryd.prog Tryd.lays112_ren := {
  mixed := by kernel_rfl
  f112 := Tryd.func26.trans (congrArg some (by kernel_rfl))
  t0 := Tryd.underlying0
  a0 := Tryd.isAgg0
  z0 := Tryd.sizeOf0
  v0 := Tryd.zeroValue0
  t3 := Tryd.underlying3
  a3 := Tryd.isAgg3
  z3 := Tryd.sizeOf3
  v3 := Tryd.zeroValue3
  t4 := Tryd.underlying4
  a4 := Tryd.isAgg4
  z4 := Tryd.sizeOf4
  v4 := Tryd.zeroValue4
  t28 := Tryd.underlying28
  a28 := Tryd.isAgg28
  z28 := Tryd.sizeOf28
  v28 := Tryd.zeroValue28 }
open Go.RowKit Go.Lib Go.Sort in
theorem Tryd.slices_Reverse_int (blk off cap : Nat) (zs : List Int) (w : World) (hH : Holds (Value.int .i64) w blk off zs.toArray) (hsz : zs.length ≤ 9223372036854775807) :
    Calls Tryd.prog 26 #[.slice (some ⟨blk, off, none⟩) zs.length cap] w fun e w' => e = .returned (.tuple #[]) ∧ ∃ n, w' = putRow (Value.int .i64) (Sort.ahead w n) blk off zs.reverse.toArray := Any.slices_Reverse_int Tryd.lays112 blk off cap zs w hH hsz
open Go.RowKit Go.Lib Go.Sort in
theorem Tryd.slices_Reverse_int_empty (a : Option Addr) (cap : Nat) (w : World) :
    Calls Tryd.prog 26 #[.slice a 0 cap] w fun e w' => e = .returned (.tuple #[]) ∧ w' = w := Any.slices_Reverse_int_empty Tryd.lays112 a cap w
end Go.Proofs
namespace Go.Proofs.YtecmkjefoppbiaaDoor
open Go.RowKit

theorem wpList_io {ops : Array Oper} {rest : List Oper} {o : Oper} {a : Act} {Q : Exit → Act → World → Prop} (W : World) (b0 : Nat) (v : Value) (l : List Int) (r : Int) (n B : Nat) (s x : Operand) (hgd : o.guard = none)
    (ho : o.op = .call { callee := .builtin .append, args := #[s, x], argTypes := #[28, 28] }) (hs : a.eval s = v) (hx : a.eval x = .slice (some ⟨B, 0, none⟩) 1 1) (hl : n ≤ 20000)
    (hO : W.ownsRow b0 3 1 v n (ir l)) (hN : At W B [.int .i64 r]) (hb : b0 ≤ W.heap.size) (H : Nat) (hH : W.heap.size = H)
    (h : ∀ g cap w', Hid (w'.ownsRow b0 3 1 (.slice (some ⟨g, 0, none⟩) (n + 1) cap) (n + 1) (ir (l ++ [r]))) → Hid (W.grownBy w' v.ownBlock) → Hid (v.ownBlock = some g ∨ g = H) → wpList Tryd.prog ops Q rest (a.put o.dst (.slice (some ⟨g, 0, none⟩) (n + 1) cap)) w') : wpList Tryd.prog ops Q (o :: rest) a W := by
  have hml : 30000 ≤ maxLen := by decide
  obtain ⟨i0, hi, hz0, hz1, hz2⟩ := info_parts infoN
  refine wpList_plain hgd fun _ hK => wp_append_lies W s x _ ho b0 _ i0 (.int .i64 0) 1 8 undI hi hz0 hz1 hz2 rfl (by decide) v n (ir l) hs hO ⟨B, 0, none⟩ 1 1 [.int .i64 r] hx rfl ?_ ?_ (by decide) (by omega) (by omega) hb H hH ?_
  · intro j u hu
    match j with
    | 0 => simp at hu; subst hu; exact (hN.1 0 (by simp)).1
    | j + 1 => simp at hu
  · intro u hu; simp at hu; subst hu; rfl
  · intro g cap w' h1 h2 h3 _
    rw [ir_snoc] at h1
    exact hK _ _ (h g cap w' h1 h2 h3)
theorem isliceh (g n cap k : Nat) (hk : k ≤ n) (hc : n ≤ cap) (h0 : 0 < cap) (w : World) : (Instr.slice 28 (.slice (some ⟨g, 0, none⟩) n cap) none (some (.int .i64 (k : Int))) none).run Tryd.prog w = .ok (.slice (some ⟨g, 0, none⟩) k cap) w := by
  have hu : Tryd.prog.underlying 28 = some (.slice (Tryd.prog.elem 28)) := by kernel_rfl
  have hs : (sizeOf (Tryd.prog.elem 28)).run Tryd.prog w = .ok 1 w := by kernel_rfl
  rw [run_slice_h w 28 _ _ _ hu .i64 _ (by omega) (by omega), hs]
  have hne : ¬ cap = 0 := by omega
  simp [Result.andThen, sliced, Addr.add, hne]
/-- A row of at least one cell lies in a block. -/
theorem own_there {w : World} {base n : Nat} {v : Value} {xs : List Int} (h : w.ownsRow base 3 1 v n (ir xs)) (hn : 0 < n) : ∃ g cap, v = .slice (some ⟨g, 0, none⟩) n cap ∧ n ≤ cap ∧ base ≤ g ∧ g < w.heap.size := by
  have hlt := h.lt
  obtain ⟨h1, h2⟩ := h
  rcases h2 with ⟨-, h0⟩ | ⟨g, cap, cur, rfl, hb, hg, hc, hm, hs, ht⟩
  · omega
  · exact ⟨g, cap, rfl, hc, hb, (hlt g rfl).2⟩
/-- The first ones of a row. -/
theorem own_first {w : World} {base n : Nat} {ad : Option Addr} {cap : Nat} {A C : List Int} (h : w.ownsRow base 3 1 (.slice ad n cap) n (ir (A ++ C))) : w.ownsRow base 3 1 (.slice ad A.length cap) A.length (ir A) := by
  obtain ⟨h1, h2⟩ := h
  have hn : (A ++ C).length = n := by simpa [ir] using h1
  rw [List.length_append] at hn
  refine ⟨by simp [ir], ?_⟩
  rcases h2 with ⟨hv, h0⟩ | ⟨g, cap', cur, hv, hb, hg, hc, hm, hs, ht⟩
  · simp only [Value.slice.injEq] at hv
    obtain ⟨rfl, -, rfl⟩ := hv
    have : A.length = 0 := by omega
    rw [this]
    exact .inl ⟨rfl, rfl⟩
  · simp only [Value.slice.injEq] at hv
    obtain ⟨rfl, -, rfl⟩ := hv
    refine .inr ⟨g, cap, cur, rfl, hb, hg, by omega, hm, hs, ?_⟩
    have : (cur.toList.take (n * 1)).take (A.length * 1) = (ir (A ++ C)).take (A.length * 1) := by rw [ht]
    rw [List.take_take, Nat.min_eq_left (by omega)] at this
    rw [this]
    simp [ir]
theorem own_at1 {w : World} {base g n cp : Nat} {l : List Int} (h : w.ownsRow base 3 1 (.slice (some ⟨g, 0, none⟩) n cp) n (ir l)) : At w g (ir l) := by
  have hlt := h.lt
  obtain ⟨h1, h2⟩ := h
  have hn : l.length = n := by simpa [ir] using h1
  rcases h2 with ⟨hv, -⟩ | ⟨g', cap', cur, hv, hb, hg, hc, hm, hs, ht⟩
  · cases hv
  · simp only [Value.slice.injEq, Option.some.injEq, Addr.mk.injEq] at hv
    obtain ⟨⟨rfl, -⟩, -, rfl⟩ := hv
    refine ⟨fun j hj => ?_, (hlt g rfl).2⟩
    have hj' : j < n := by simpa [ir, hn] using hj
    have e : cur.toList[j]? = some (ir l)[j] := by
      have : (cur.toList.take (n * 1))[j]? = (ir l)[j]? := by rw [ht]
      rw [List.getElem?_take, if_pos (by omega), List.getElem?_eq_getElem hj] at this
      exact this
    exact ⟨by simp [World.cell?, hg]; simpa using e, by simp [World.frozen?, hg]⟩
theorem At.grw1 {W w2 : World} {B : Nat} {l : List Value} {row : Option Nat} (h : At W B l) (hg : W.grownBy w2 row) (hne : row ≠ some B) : At w2 B l := by
  have hb := hg.block B h.2 (fun e => hne e.symm)
  exact ⟨fun i hi => ⟨(World.cell?_of_block (w := W) (a := ⟨B, i, none⟩) hb).trans (h.1 i hi).1, (World.frozen?_of_block (w := W) (a := ⟨B, i, none⟩) hb).trans (h.1 i hi).2⟩, Nat.lt_of_lt_of_le h.2 hg.size⟩
open Go.Sort in
/-- slices.Reverse, of a row that lies in a block. -/
theorem rev_any {g cap : Nat} {L : List Int} (w : World) (h : At w g (ir L)) (hl : L.length ≤ 20000) : Calls Tryd.prog 26 #[.slice (some ⟨g, 0, none⟩) L.length cap] w fun e w' => e = .returned (.tuple #[]) ∧ At w' g (ir L.reverse) ∧ w.grownBy w' (some g) := by
  have hH : Holds (Value.int .i64) w g 0 L.toArray := fun j hj => by
    have hj' : j < L.length := by simpa using hj
    obtain ⟨h1, h2⟩ := h.1 j (by simpa [ir] using hj')
    rw [Nat.zero_add]
    refine ⟨?_, h2⟩
    rw [h1]
    simp [ir, hj']
  refine (Tryd.slices_Reverse_int g 0 cap L w hH (by omega)).mono ?_
  rintro e w' ⟨rfl, n, rfl⟩
  have hg : w.grownBy (putRow (Value.int .i64) (Sort.ahead w n) g 0 L.reverse.toArray) (some g) := by
    have := grownBy_sortedI (w := w) (g := g) (n := n) (os := #[]) L.reverse.toArray
    rwa [grow_empty] at this
  refine ⟨rfl, ⟨fun j hj => ?_, ?_⟩, hg⟩
  · have hj' : j < L.reverse.length := by simpa [ir] using hj
    have hk := holds_putRow (Value.int .i64) (Sort.ahead w n) g 0 L.toArray L.reverse.toArray (holds_ahead (Value.int .i64) w n g 0 L.toArray hH) (by simp) j (by simpa using hj')
    rw [Nat.zero_add] at hk
    refine ⟨?_, hk.2⟩
    rw [hk.1]
    simp [ir]
    rw [List.getElem?_eq_getElem hj']
    simp
  · exact Nat.lt_of_lt_of_le h.2 hg.size
/-- Two rows, of which the second one is read. -/
structure BT (w W : World) (base g2 : Nat) (v : Value) (L R : List Int) : Prop where
  r : W.ownsRow base 3 1 v L.length (ir L)
  y : R = [] ∨ (At W g2 (ir R) ∧ v.ownBlock ≠ some g2)
  gr : Gr w W
  b : w.heap.size ≤ base ∧ base ≤ W.heap.size
theorem BT.app {w W w' : World} {base g g2 cap2 n : Nat} {v : Value} {L R : List Int} {ob : Obj} {x : Int} (h : BT w W base g2 v L R) (hn : n = L.length) (hO : w'.ownsRow base 3 1 (.slice (some ⟨g, 0, none⟩) (n + 1) cap2) (n + 1) (ir (L ++ [x]))) (hg : (W.alloc ob).grownBy w' v.ownBlock) (ha : v.ownBlock = some g ∨ g = W.heap.size + 1) : BT w w' base g2 (.slice (some ⟨g, 0, none⟩) (n + 1) cap2) (L ++ [x]) R := by
  subst hn
  have hs := hg.size
  have hs1 : W.heap.size ≤ (W.alloc ob).heap.size := by simp
  refine ⟨by rw [List.length_append]; exact hO, ?_, ?_, h.b.1, by have := h.b.2; omega⟩
  · rcases h.y with q | ⟨q1, q2⟩
    · exact .inl q
    · refine .inr ⟨(q1.alloc ob).grw1 hg q2, fun e => ?_⟩
      have e' : g = g2 := Option.some.inj e
      rcases ha with ha | ha
      · exact q2 (by rw [ha, e'])
      · have := q1.lt; omega
  · exact Below.grown (h.gr.alloc ob).out hg (by have := h.gr.out.size; omega) (fun k e => Nat.le_trans h.b.1 (h.r.lt k e).1)
/-- The second of two rows is turned about. -/
theorem rev_two {w W : World} {b1 b2 q1 q2 cap1 cap2 : Nat} {ad1 ad2 : Option Addr} {A B : List Int} (hA : W.ownsRow b1 3 1 (.slice ad1 q1 cap1) q1 (ir A)) (hB : W.ownsRow b2 3 1 (.slice ad2 q2 cap2) q2 (ir B)) (hd : ∀ g, Value.ownBlock (.slice ad1 q1 cap1) = some g → Value.ownBlock (.slice ad2 q2 cap2) ≠ some g) (hG : Gr w W) (hb : w.heap.size ≤ b1 ∧ b1 ≤ W.heap.size) (hb2 : w.heap.size ≤ b2) (hl : q2 ≤ 20000) : Calls Tryd.prog 26 #[.slice ad2 q2 cap2] W fun e w' => e = .returned (.tuple #[]) ∧ ∃ g2, BT w w' b1 g2 (.slice ad1 q1 cap1) A B.reverse ∧ (0 < q2 → ad2 = some ⟨g2, 0, none⟩) := by
  have hn1 : q1 = A.length := by have := hA.1; simpa [ir] using this.symm
  have hn2 : B.length = q2 := by have := hB.1; simpa [ir] using this
  subst hn1
  by_cases h0 : q2 = 0
  · subst h0
    have eB : B = [] := List.eq_nil_of_length_eq_zero hn2
    subst eB
    refine (Tryd.slices_Reverse_int_empty ad2 cap2 W).mono ?_
    rintro e w' ⟨rfl, rfl⟩
    exact ⟨rfl, 0, ⟨hA, .inl rfl, hG, hb⟩, fun h => by omega⟩
  · obtain ⟨g, cap, hv, hc, hg, hgw⟩ := own_there hB (by omega)
    simp only [Value.slice.injEq, true_and] at hv
    obtain ⟨rfl, rfl⟩ := hv
    have hne : ∀ k, Value.ownBlock (.slice ad1 A.length cap1) = some k → (some g : Option Nat) ≠ some k := fun k e e2 => by
      rw [← e2] at e
      exact hd g e rfl
    have hR := rev_any (cap := cap2) W (own_at1 hB) (by omega)
    rw [hn2] at hR
    refine hR.mono ?_
    rintro e w' ⟨rfl, k1, k2⟩
    refine ⟨rfl, g, ⟨?_, .inr ⟨k1, fun e => hne g e rfl⟩, Below.grown hG.out k2 hG.out.size (fun k e => by cases e; omega), hb.1, Nat.le_trans hb.2 k2.size⟩, fun _ => rfl⟩
    cases hv : Value.ownBlock (.slice ad1 A.length cap1) with
    | none => exact hA.kept k2 (.inl hv)
    | some k => exact hA.kept k2 (.inr (by rw [hv]; exact fun e => hne k hv e.symm))
end Go.Proofs.YtecmkjefoppbiaaDoor
