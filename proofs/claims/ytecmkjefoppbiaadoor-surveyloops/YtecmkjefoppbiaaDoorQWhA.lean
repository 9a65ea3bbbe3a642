/-
  Rows of words of 64 bits in memory; whole.trimmed, whole.parts.least, whole.compare.
-/
import Derived.Test.YtecmkjefoppbiaaDoorProg
import Derived.Test.YtecmkjefoppbiaaDoorQJ7
import Derived.Test.YtecmkjefoppbiaaDoorQJ1
import Derived.Test.YtecmkjefoppbiaaDoorQJ13
import Derived.WalkKit
import Derived.WalkLawsBesides
import Derived.WalkSmall
import Derived.Outline
namespace Go.Proofs.YtecmkjefoppbiaaDoor
open Go.RowKit WH

/-- Only the block A is other than it was. -/
abbrev Onl (A : Nat) (w w' : World) : Prop := w.grownBy w' (some A)
theorem Onl.refl (A : Nat) (w : World) : Onl A w w := ⟨rfl, rfl, rfl, Nat.le_refl _, fun _ _ _ => rfl⟩
theorem Onl.trans {A : Nat} {a b c : World} (h : Onl A a b) (k : Onl A b c) : Onl A a c :=
  ⟨k.os.trans h.os, k.tape.trans h.tape, k.output.trans h.output, Nat.le_trans h.size k.size, fun i hi hn => (k.block i (Nat.lt_of_lt_of_le hi h.size) hn).trans (h.block i hi hn)⟩
theorem Onl.set {A : Nat} {a b : World} (h : Onl A a b) (o : Nat) (v : Value) : Onl A a (b.setCell ⟨A, o, none⟩ v) := by
  have k := Below.setCell (Below.refl 0 b) (p := ⟨A, o, none⟩) (Nat.zero_le _) v
  refine ⟨k.os.trans h.os, k.tape.trans h.tape, k.output.trans h.output, by simpa using h.size, fun i hi hn => ?_⟩
  · rw [Below.heap_setCell b ⟨A, o, none⟩ v i (fun e => hn (by rw [e]))]; exact h.block i hi hn
theorem Onl.drewN {A : Nat} {a b : World} (h : Onl A a b) (n : Nat) : Onl A a (b.drewN n) := ⟨h.os, h.tape, h.output, h.size, h.block⟩
theorem Onl.drew {A : Nat} {a b : World} (h : Onl A a b) : Onl A a b.drew := ⟨h.os, h.tape, h.output, h.size, h.block⟩
theorem Onl.of {A : Nat} {w a b : World} (h : Below w.heap.size w a) (k : Onl A a b) (hA : w.heap.size ≤ A) : Below w.heap.size w b :=
  Below.grown h k h.size (fun _ e => by cases e; exact hA)
theorem At.onl {A B : Nat} {w w' : World} {l : List Value} (h : At w B l) (k : Onl A w w') (hn : B ≠ A) : At w' B l := by
  have hb := k.block B h.2 (fun e => hn (Option.some.inj e))
  exact ⟨fun i hi => ⟨(World.cell?_of_block (w := w) (a := ⟨B, i, none⟩) hb).trans (h.1 i hi).1, (World.frozen?_of_block (w := w) (a := ⟨B, i, none⟩) hb).trans (h.1 i hi).2⟩, Nat.lt_of_lt_of_le h.2 k.size⟩
/-- The words as values. -/
abbrev us (l : List Nat) : List Value := l.map fun d => Value.int .u64 ((d : Nat) : Int)
theorem us_set (l : List Nat) (j d : Nat) : (us l).set j (.int .u64 ((d : Nat) : Int)) = us (l.set j d) := by simp [us, List.map_set]
theorem At.ucell {w : World} {A : Nat} {L : List Nat} (h : At w A (us L)) {i : Nat} (hi : i < L.length) : w.cell? ⟨A, i, none⟩ = some (.int .u64 ((L[i] : Nat) : Int)) ∧ w.frozen? ⟨A, i, none⟩ = false := by
  have := h.1 i (by simpa using hi)
  simpa using this
theorem At.uput {w : World} {A : Nat} {L : List Nat} (h : At w A (us L)) (i d : Nat) : At (w.setCell ⟨A, i, none⟩ (.int .u64 ((d : Nat) : Int))) A (us (L.set i d)) := by
  have := h.put i (.int .u64 ((d : Nat) : Int))
  rwa [us_set] at this
/-- The words lie from the head of the block on. -/
def URow (w : World) (b : Nat) (l : List Nat) : Prop := (∀ i, (h : i < l.length) → w.cell? ⟨b, i, none⟩ = some (.int .u64 ((l[i] : Nat) : Int))) ∧ b < w.heap.size
theorem URow.below {W w' : World} {b : Nat} {l : List Nat} (h : URow W b l) (hB : Below W.heap.size W w') : URow w' b l :=
  ⟨fun i hi => (hB.cell (p := ⟨b, i, none⟩) h.2).trans (h.1 i hi), Nat.lt_of_lt_of_le h.2 hB.size⟩
theorem URow.onl {A : Nat} {W w' : World} {b : Nat} {l : List Nat} (h : URow W b l) (k : Onl A W w') (hn : b ≠ A) : URow w' b l := by
  have hb := k.block b h.2 (fun e => hn (Option.some.inj e))
  exact ⟨fun i hi => (World.cell?_of_block (w := W) (a := ⟨b, i, none⟩) hb).trans (h.1 i hi), Nat.lt_of_lt_of_le h.2 k.size⟩
theorem URow.take {w : World} {b : Nat} {l : List Nat} (h : URow w b l) (k : Nat) : URow w b (l.take k) :=
  ⟨fun i hi => by rw [h.1 i (by rw [List.length_take] at hi; omega)]; simp, h.2⟩
theorem At.urow {w : World} {A : Nat} {L : List Nat} (h : At w A (us L)) : URow w A L := ⟨fun _ hi => (h.ucell hi).1, h.2⟩
/-- A slice that holds the words. -/
def Pt (w : World) (v : Value) (l : List Nat) : Prop := (v = .slice none 0 0 ∧ l = []) ∨ ∃ b cap, v = .slice (some ⟨b, 0, none⟩) l.length cap ∧ l.length ≤ cap ∧ cap ≤ maxLen ∧ URow w b l
theorem Pt.below {W w' : World} {v : Value} {l : List Nat} (h : Pt W v l) (hB : Below W.heap.size W w') : Pt w' v l := by
  rcases h with h | ⟨b, cap, h1, h2, h3, h4⟩
  · exact .inl h
  · exact .inr ⟨b, cap, h1, h2, h3, h4.below hB⟩
theorem Pt.form {w : World} {v : Value} {l : List Nat} (h : Pt w v l) : ∃ ad cap, v = .slice ad l.length cap := by
  rcases h with ⟨rfl, rfl⟩ | ⟨b, cap, rfl, _⟩
  · exact ⟨none, 0, rfl⟩
  · exact ⟨_, cap, rfl⟩
theorem uindex (b o n cap k : Nat) (hk : k < n) (w : World) : (Instr.indexAt 63 (.slice (some ⟨b, o, none⟩) n cap) (.int .i64 k)).run Tryd.prog w = .ok (.pointer (some ⟨b, o + k, none⟩)) w := by
  refine (run_indexAt_slice (P := Tryd.prog) (w := w) 63 ⟨b, o, none⟩ n cap .i64 (k : Int) (by kernel_rfl)).trans ?_
  rw [if_pos ⟨by omega, by omega⟩]
  have hs : (sizeOf (Tryd.prog.elem 63)).run Tryd.prog w = .ok 1 w := by kernel_rfl
  rw [hs]
  simp [Addr.add]
theorem uindex0 (b n cap k : Nat) (hk : k < n) (w : World) : (Instr.indexAt 63 (.slice (some ⟨b, 0, none⟩) n cap) (.int .i64 k)).run Tryd.prog w = .ok (.pointer (some ⟨b, k, none⟩)) w := by
  have := uindex b 0 n cap k hk w
  rwa [Nat.zero_add] at this
/-- What a walk wants to know of a slice that is only read, in a block other than A's. -/
structure Rd (w : World) (A : Nat) (ad : Option Addr) (b cap : Nat) (l : List Nat) : Prop where
  row : URow w b l ∧ b ≠ A ∨ l = []
  ix : ∀ k : Nat, k < l.length → ∀ w, (Instr.indexAt 63 (.slice ad l.length cap) (.int .i64 k)).run Tryd.prog w = .ok (.pointer (some ⟨b, k, none⟩)) w
theorem Rd.cell {w : World} {A : Nat} {ad : Option Addr} {b cap : Nat} {l : List Nat} (h : Rd w A ad b cap l) {k : Nat} (hk : k < l.length) {w' : World} (g : Onl A w w') : w'.cell? ⟨b, k, none⟩ = some (.int .u64 ((l[k] : Nat) : Int)) := by
  have hn : l ≠ [] := by intro e; rw [e] at hk; simp at hk
  obtain ⟨h1, h2⟩ := h.row.resolve_right hn
  exact (h1.onl g h2).1 k hk
theorem Pt.rd {w : World} {v : Value} {l : List Nat} {A : Nat} (h : Pt w v l) (hA : ∀ b, v.ownBlock = some b → b ≠ A) : ∃ ad b cap, v = .slice ad l.length cap ∧ Rd w A ad b cap l := by
  rcases h with ⟨rfl, rfl⟩ | ⟨b, cap, rfl, _, _, hr⟩
  · exact ⟨none, 0, 0, rfl, .inr rfl, fun k hk => by simp at hk⟩
  · exact ⟨_, b, cap, rfl, .inl ⟨hr, hA b rfl⟩, fun k hk w => uindex0 b _ cap k hk w⟩
theorem Pt.lt {w : World} {v : Value} {l : List Nat} (h : Pt w v l) : ∀ b, v.ownBlock = some b → b < w.heap.size := by
  rcases h with ⟨rfl, rfl⟩ | ⟨b, cap, rfl, _, _, hr⟩
  · intro b hb; cases hb
  · intro c hc; cases hc; exact hr.2
theorem Pt.rd0 {w : World} {v : Value} {l : List Nat} (h : Pt w v l) : ∃ ad b cap, v = .slice ad l.length cap ∧ Rd w w.heap.size ad b cap l :=
  h.rd (fun b hb => by have := h.lt b hb; omega)

theorem wtrim_nil (w : World) : Calls Tryd.prog 44 #[.slice none 0 0] w fun e w' => e = .returned (.slice none 0 0) ∧ w' = w := by
  go_enter Tryd.func44, Tryd.ntmps44
  go_wp2
  refine wp_loop_rounds 1 ?_
  rw [rounds_succ]
  go_wp2
  go_ret
  exact ⟨rfl, rfl⟩
set_option maxHeartbeats 1000000 in
theorem wtrim_row (w : World) (b : Nat) (l : List Nat) (cap : Nat) (hd : Dg l) (hr : URow w b l) (hl : l.length ≤ cap) (hm : cap ≤ maxLen) : Calls Tryd.prog 44 #[.slice (some ⟨b, 0, none⟩) l.length cap] w fun e w' => e = .returned (.slice (some ⟨b, 0, none⟩) (dn (dv l)).length cap) ∧ w' = w := by
  have HD := hidb hd
  have hm' : cap ≤ 9223372036854775807 := by unfold maxLen at hm; omega
  clear hd hm
  go_enter Tryd.func44, Tryd.ntmps44
  go_wp2
  go_loop [3] (fun t => ∃ k : Nat, k ≤ l.length ∧ Hid (∀ i, (hi : i < l.length) → k ≤ i → l[i] = 0) ∧ t = .int .i64 k) (fun t => (intOf t).toNat)
  case atStart => exact ⟨l.length, Nat.le_refl _, fun i hi hk => by omega, rfl⟩
  case round =>
    obtain ⟨k, hk, HZ, rfl⟩ := hrel
    rcases Nat.eq_zero_or_pos k with rfl | hp
    · have HE : Hid ((dn (dv l)).length = 0) := by
        show (dn (dv l)).length = 0
        rw [← take_dn HD.out (Nat.zero_le _) HZ.out (.inl rfl)]; simp
      go_wp2
      go_ret
      exact ⟨by rw [HE.out]; rfl, rfl⟩
    · obtain ⟨j, rfl⟩ : ∃ j, k = j + 1 := ⟨k - 1, by omega⟩
      have hj : j < l.length := by omega
      have hc := hr.1 j hj
      have ej : ((j + 1 : Nat) : Int) - 1 = j := by omega
      have pj : (0 : Int) < ((j + 1 : Nat) : Int) := by omega
      by_cases h0 : l[j] = 0
      · have HZ2 : Hid (∀ i, (hi : i < l.length) → j ≤ i → l[i] = 0) := fun i hi hki => by
          rcases Nat.lt_or_eq_of_le hki with c | c
          · exact HZ.out i hi c
          · subst c; exact h0
        rw [h0] at hc
        go_wp2
        go_round
        case rel => exact ⟨j, by omega, HZ2, by go_num⟩
        case measure => simp [intOf]
      · have HE : Hid ((dn (dv l)).length = j + 1) := by
          show (dn (dv l)).length = j + 1
          rw [← take_dn HD.out hk HZ.out (.inr ⟨by simpa using hj, by simpa using h0⟩), List.length_take]; omega
        have hb0 : ((l[j] : Nat) : Int) ≠ 0 := by omega
        have hb1 : (((l[j] : Nat) : Int) == 0) = false := by simp [h0]
        generalize ((l[j] : Nat) : Int) = x at *
        go_wp2
        go_ret
        exact ⟨by rw [HE.out]; simp, rfl⟩
theorem wtrim_any {w : World} {v : Value} {l : List Nat} (hd : Dg l) (h : Pt w v l) : Calls Tryd.prog 44 #[v] w fun e w' => ∃ v', e = .returned v' ∧ Pt w' v' (dn (dv l)) ∧ w' = w := by
  rcases h with ⟨rfl, rfl⟩ | ⟨b, cap, rfl, h2, h3, h4⟩
  · refine (wtrim_nil w).mono ?_
    rintro e w' ⟨rfl, rfl⟩
    exact ⟨_, rfl, .inl ⟨rfl, dn_zero⟩, rfl⟩
  · refine (wtrim_row w b l cap hd h4 h2 h3).mono ?_
    rintro e w' ⟨rfl, rfl⟩
    obtain ⟨k, hk, e⟩ := dn_take hd
    have hl : (dn (dv l)).length ≤ l.length := by rw [e, List.length_take]; omega
    exact ⟨_, rfl, .inr ⟨b, cap, rfl, by omega, h3, by rw [e]; exact h4.take k⟩, rfl⟩
theorem least_any {w : World} {v : Value} {n : Nat} (hn : n < 18446744073709551616) (h : Pt w v (dn n)) : Calls Tryd.prog 51 #[v] w fun e w' => e = .returned (.int .u64 n) ∧ w' = w := by
  by_cases c : n = 0
  · subst c
    rw [dn_zero] at h
    obtain ⟨ad, cap, rfl⟩ := h.form
    go_enter Tryd.func51, Tryd.ntmps51
    go_wp2
    go_ret
    exact ⟨rfl, rfl⟩
  · have e : dn n = [n] := by rw [dn_pos c, Nat.mod_eq_of_lt hn, Nat.div_eq_of_lt hn, dn_zero]
    rw [e] at h
    rcases h with ⟨_, h⟩ | ⟨b, cap, rfl, h2, h3, h4⟩
    · cases h
    · have h0 := h4.1 0 (by simp)
      simp only [List.getElem_cons_zero] at h0
      go_enter Tryd.func51, Tryd.ntmps51
      go_wp2
      go_ret
      exact ⟨rfl, rfl⟩
end Go.Proofs.YtecmkjefoppbiaaDoor
