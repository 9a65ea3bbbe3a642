/-
  slices.SortFunc of passes.
-/
import Derived.Test.YtddnebgnohlchaaGreatDoorQJ23
import Derived.Test.YtddnebgnohlchaaGreatDoorQPsX
import Derived.Shelf.SlSortCmp.NoneTotal
namespace Go.Proofs.YtddnebgnohlchaaGreatDoor
open Go.RowKit

theorem ltP (x y : Nn) : Go.Proofs.ltOf cfN x y = decide (ltN x y) := by
  unfold Go.Proofs.ltOf
  by_cases h : ltN x y
  · rw [decide_eq_true h, decide_eq_true ((cfN_lt x y).2 h)]
  · rw [decide_eq_false h, decide_eq_false (fun hh => h ((cfN_lt x y).1 hh))]
theorem ltN_ir (x : Nn) : ¬ ltN x x := by unfold ltN; omega
theorem ltN_tr {x y z : Nn} (h1 : ltN x y) (h2 : ltN y z) : ltN x z := by unfold ltN at *; omega
theorem ltN_nt {x y z : Nn} (h1 : ¬ ltN x y) (h2 : ¬ ltN y z) : ¬ ltN x z := by unfold ltN at *; omega
theorem ltN_tot {x y : Nn} (h1 : ¬ ltN x y) (h2 : ¬ ltN y x) : x = y := by unfold ltN at *; exact Prod.ext (by omega) (by omega)
theorem swoP : Go.Sort.SWO (Go.Proofs.ltOf cfN) where
  irrefl x := by rw [ltP, decide_eq_false (ltN_ir x)]
  trans x y z h1 h2 := by
    rw [ltP, decide_eq_true_eq] at *
    exact ltN_tr h1 h2
  ntrans x y z h1 h2 := by
    rw [ltP, decide_eq_false_iff_not] at *
    exact ltN_nt h1 h2
theorem totP (x y : Nn) (h1 : Go.Proofs.ltOf cfN x y = false) (h2 : Go.Proofs.ltOf cfN y x = false) : x = y := by
  rw [ltP, decide_eq_false_iff_not] at h1 h2
  exact ltN_tot h1 h2
theorem holdsP {W : World} {G : Nat × Nat → Int} {g n : Nat} {L : List Nn} {base cap : Nat} (h : W.ownsRow base 45 3 (.slice (some ⟨g, 0, none⟩) n cap) n (tr G L)) (hn : L.length = n) : Go.Sort.HoldsK (Tcs G) 3 W g 0 L.toArray ∧ g < W.heap.size := by
  subst hn
  have hlt := (h.lt g rfl).2
  refine ⟨fun j hj => ?_, hlt⟩
  obtain ⟨h1, h2 | ⟨g', cap', cur, hv, hb, hg, hc, hm, hs, ht⟩⟩ := h
  · exact absurd h2.1 (by simp)
  · simp only [Value.slice.injEq] at hv
    obtain ⟨e1, -, rfl⟩ := hv
    have e2 : g = g' := by simpa using e1
    subst e2
    rw [Go.Sort.size_flatK] at hj
    simp at hj
    rw [Go.Sort.get_flatK _ _ _ _ (by simpa using hj)]
    have hi : j / 3 < L.length := by omega
    have hgx : L.toArray[j / 3]! = tx L (j / 3) := by simp [tx, hi]
    have e3 : (cur.toList.take (L.length * 3))[j]? = (tr G L)[j]? := by rw [ht]
    rw [List.getElem?_take, if_pos (by omega)] at e3
    have e4 := tr_get G L (j / 3) hi (j % 3) (by omega)
    rw [show j / 3 * 3 + j % 3 = j by omega] at e4
    rw [e4] at e3
    rw [hgx]
    refine ⟨?_, by simp [World.frozen?, hg]⟩
    have e5 : W.cell? ⟨g, 0 + j, none⟩ = (Tcs G (tx L (j / 3)))[j % 3]? := by
      rw [Nat.zero_add]
      simp [World.cell?, hg]
      simpa using e3
    rw [e5]
    have h7 : j % 3 = 0 ∨ j % 3 = 1 ∨ j % 3 = 2 := by omega
    rcases h7 with e | e | e <;> rw [e] <;> rfl
theorem ofHoldsP {W : World} {G : Nat × Nat → Int} {g cap : Nat} {L : List Nn} (h : Go.Sort.HoldsK (Tcs G) 3 W g 0 L.toArray) (hg : g < W.heap.size) (hc : L.length ≤ cap) : TSl W G (some ⟨g, 0, none⟩) g cap L := by
  refine ⟨fun i hi => ?_, fun j hj w => by have := tindex g 0 L.length cap j hj w; rwa [Nat.zero_add] at this, fun j hj => ⟨rfl, hc⟩⟩
  have c0 := h.cell (i := i) (c := 0) (by simpa using hi) (by omega)
  have c1 := h.cell (i := i) (c := 1) (by simpa using hi) (by omega)
  have c2 := h.cell (i := i) (c := 2) (by simpa using hi) (by omega)
  have hgx : L.toArray[i]! = tx L i := by simp [tx, hi]
  rw [hgx] at c0 c1 c2
  simp only [Nat.zero_add, Nat.add_zero] at c0 c1 c2
  exact ⟨⟨c0.1, c1.1, c2.1⟩, hg⟩
theorem onl_sortP {w : World} {G : Nat × Nat → Int} {B : Nat} (n : Nat) (d : Array Nn) (os : Array Obj) : Onl B w (Go.Proofs.sortWorldK (Tcs G) 3 w B 0 n d os) := by
  refine ⟨rfl, rfl, rfl, Go.Proofs.size_sortWorldK_c _ _ _ _ _ _ _ _, fun i hi hn => ?_⟩
  have hne : B ≠ i := fun e => hn (by rw [e])
  simp [Go.Proofs.sortWorldK, Go.Sort.grow, Go.Sort.putRowK, Go.Sort.putRow, Go.Sort.mapBlock, Go.Sort.ahead, Array.getElem?_append, hi, Array.getElem_modify, hne]
theorem srtN_len (ks : List Nn) : (srtN ks).length = ks.length := by simp [srtN]
theorem sortP_any {G : Nat × Nat → Int} {g cap base : Nat} {L : List Nn} (hl : L.length ≤ 140000) (w : World) (hO : w.ownsRow base 45 3 (.slice (some ⟨g, 0, none⟩) L.length cap) L.length (tr G L)) (hc : L.length ≤ cap) : Calls Tryz.prog 22 #[.slice (some ⟨g, 0, none⟩) L.length cap, .func (.func 23) #[] #[]] w fun e w' => e = .returned (.tuple #[]) ∧ TSl w' G (some ⟨g, 0, none⟩) g cap (srtN L) ∧ Onl g w w' := by
  have eg : ∀ args w, (callFunc 23 args).run Tryz.prog w = .ok (.enter 23 args) w := enters_of Tryz.func23 (by kernel_rfl) rfl
  obtain ⟨hH, hlt⟩ := holdsP hO rfl
  have hs : L.toArray.size = L.length := by simp
  have hcc := Go.Proofs.AnyQ.slices_SortFunc_total Tryz.laysPS 3 (fun w => by kernel_rfl) (fun w => by kernel_rfl) (Tcs G) (fun _ => rfl) (fun x v hv => by simp [Tcs] at hv; rcases hv with rfl | rfl | rfl <;> rfl) cfN swoP 23 #[] g 0 cap L.toArray w eg (fun _ _ _ _ x y => pcmp_any x y (G x) (G y) _) hH hlt (by rw [hs]; omega) totP
  rw [hs] at hcc
  refine hcc.mono ?_
  rintro e w' ⟨rfl, n, os, rfl⟩
  refine ⟨rfl, ?_, onl_sortP _ _ _⟩
  have k := Go.Proofs.holdsK_sortWorldK_c (Tcs G) 3 w g 0 L.toArray (srtN L).toArray n os hH hlt (by simp [srtN_len])
  exact ofHoldsP k (Nat.lt_of_lt_of_le hlt (Go.Proofs.size_sortWorldK_c _ _ _ _ _ _ _ _)) (by rw [srtN_len]; exact hc)
theorem sortP_nil (w : World) (cap : Nat) : Calls Tryz.prog 22 #[.slice none 0 cap, .func (.func 23) #[] #[]] w fun e w' => e = .returned (.tuple #[]) ∧ w' = w :=
  Go.Proofs.AnyF.slices_SortFunc_none Tryz.laysPS none cap (.func (.func 23) #[] #[]) w
end Go.Proofs.YtddnebgnohlchaaGreatDoor
