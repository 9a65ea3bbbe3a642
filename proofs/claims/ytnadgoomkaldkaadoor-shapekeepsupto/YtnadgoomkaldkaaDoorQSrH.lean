/-
  shape.counted.
-/
import Derived.Test.YtnadgoomkaldkaaDoorQTk
import Derived.Test.YtnadgoomkaldkaaDoorQJ5
namespace Go.Proofs.YtnadgoomkaldkaaDoor
open Go.RowKit Go.Maps
attribute [local go_sem ↓] Go.wp_at_zero Go.wp_at_succ

/-- The map while points are counted. -/
def CS (w wr : World) (L : List Sp) : Prop := (∃ D, OM wr w.heap.size L.length D ∧ CD D L) ∧ Gr w wr
theorem CS.below {w W w' : World} {L : List Sp} (h : CS w W L) (hB : Below W.heap.size W w') : CS w w' L := by
  obtain ⟨⟨D, h1, h2⟩, h3⟩ := h
  exact ⟨⟨D, h1.kept ⟨hB.os, hB.tape, hB.output, hB.size, fun i hi _ => hB.block i hi⟩ (row := none) (by simp), h2⟩, Gr.step h3 hB⟩
set_option maxRecDepth 4000 in
set_option maxHeartbeats 8000000 in
theorem counted_any {ad : Option Addr} {b o cap : Nat} {Ls : List (List Sp)} (hok : ∀ l ∈ Ls, ∀ p ∈ l, okS p) (hlen : Ls.flatten.length ≤ 5000) (hN : Ls.length ≤ 5000) (w : World) (h : LLs w ad b o cap Ls) : Calls Tryd.prog 43 #[.slice ad Ls.length cap] w fun e w' => e = .returned (.map (some w.heap.size)) ∧ CS w w' Ls.flatten := by
  have HR := hidb h
  have HOK := hidb hok
  have HLn := hidb hlen
  have hmm := @run_makeMap Tryd.prog
  obtain ⟨N, hn⟩ : ∃ n, n = Ls.length := ⟨_, rfl⟩
  have HX := hidb (fun k (hk : k < N) => h.ix k (by rw [← hn]; exact hk))
  have HNn := hidb hn
  rw [← hn] at HX hN ⊢
  have HNb := hidb hN
  have E0 : Hid (CS w (w.alloc (.map #[] 0)) (Ls.take 0).flatten) := ⟨⟨.map [], World.ownsMap_made _ _ _ _, CD.nil⟩, (Gr.refl w).alloc _⟩
  clear hn h hok hlen hN
  go_enter Tryd.func43, Tryd.ntmps43
  go_wp2
  clear hmm
  go_loopw [11] (fun t wr => ∃ (i : Nat), i ≤ N ∧ t = .int .i64 (i : Int) ∧ Hid (CS w wr (Ls.take i).flatten)) (fun t _ => N - (intOf t).toNat)
  case atStart => exact ⟨0, Nat.zero_le _, rfl, E0⟩
  case round =>
    clear E0
    obtain ⟨i, hi, rfl, E⟩ := hrel
    by_cases h1 : ¬ i < N
    · have h1' : ¬ (i : Int) < (N : Int) := by omega
      obtain rfl : i = N := by omega
      have hT : Ls.take i = Ls := List.take_of_length_le (by rw [HNn.out]; exact Nat.le_refl _)
      rw [hT] at E
      clear h1 hT
      go_wp2
      go_ret
      exact ⟨rfl, E.out⟩
    · have h1' : (i : Int) < (N : Int) := by omega
      have hiN : i < Ls.length := by rw [← HNn.out]; omega
      have HIN := hidb (show i < N by omega)
      obtain ⟨⟨ad', b', o', cap', c0w, hS⟩, cb⟩ := HR.out.row i hiN
      have c0 := (E.out.2.out.cell (p := ⟨b, o + i, none⟩) cb).trans c0w
      clear c0w
      have ix := HX.out i (by omega)
      have hT : (Ls.take (i + 1)).flatten = (Ls.take i).flatten ++ lx Ls i := by
        rw [List.take_succ_eq_append_getElem hiN, List.flatten_append]
        congr 1
        unfold lx
        simp [hiN]
      have HT := hidb hT
      have hmem : lx Ls i ∈ Ls := by unfold lx; rw [List.getD_eq_getElem?_getD, List.getElem?_eq_getElem hiN]; exact List.getElem_mem hiN
      have HOk := hidb (HOK.out _ hmem)
      have hle : (Ls.take i).flatten.length + (lx Ls i).length ≤ 5000 := by
        have h2 := HLn.out
        have h3 : Ls.flatten = (Ls.take (i + 1)).flatten ++ (Ls.drop (i + 1)).flatten := by rw [← List.flatten_append, List.take_append_drop]
        rw [h3, hT] at h2
        simp only [List.length_append] at h2
        omega
      have HLe := hidb hle
      have e1 : IntKind.i64.wrap ((i : Int) + 1) = ((i + 1 : Nat) : Int) := by rw [show (i : Int) + 1 = ((i + 1 : Nat) : Int) by omega]; exact wr_in (by omega) (by have := HNb.out; omega)
      have HE1 := hidb e1
      generalize (Ls.take i).flatten = Lp at *
      generalize lx Ls i = l at *
      have HS := hidb hS
      obtain ⟨n, hn⟩ : ∃ n, n = l.length := ⟨_, rfl⟩
      have HX2 := hidb (fun k (hk : k < n) => hS.ix k (by rw [← hn]; exact hk))
      rw [← hn] at HX2 c0
      have HNl := hidb hn
      have E0 : Hid (CS w wr (Lp ++ l.take 0)) := by rw [List.take_zero, List.append_nil]; exact E
      have HG0 := hidb (Gr.refl wr)
      clear h1 hiN hT hmem hle e1 hS hn E cb
      go_wp2
      go_loopw [17] (fun t wx => ∃ (j : Nat), j ≤ n ∧ t = .int .i64 (j : Int) ∧ Hid (CS w wx (Lp ++ l.take j))) (fun t _ => n - (intOf t).toNat)
      case atStart => exact ⟨0, Nat.zero_le _, rfl, E0⟩
      case round =>
        clear E0
        obtain ⟨j, hj, rfl, E⟩ := hrel
        by_cases h2 : ¬ j < n
        · have h2' : ¬ (j : Int) < (n : Int) := by omega
          obtain rfl : j = n := by omega
          have hT2 : l.take j = l := List.take_of_length_le (by rw [HNl.out]; exact Nat.le_refl _)
          rw [hT2, ← HT.out] at E
          have e1 := HE1.out
          clear h2 hT2
          go_wp2
          go_roundw
          case rel => exact ⟨i + 1, HIN.out, by go_num, E⟩
          case measure => have := HIN.out; simp [intOf]; omega
        · have h2' : (j : Int) < (n : Int) := by omega
          have hjn : j < l.length := by rw [← HNl.out]; omega
          have HJN := hidb (show j < n by omega)
          obtain ⟨⟨d0, d1⟩, db⟩ := (HS.out.gr E.out.2).row j hjn
          have ix2 := HX2.out j (by omega)
          have hT2 : l.take (j + 1) = l.take j ++ [sx l j] := by rw [List.take_succ_eq_append_getElem hjn, sx_get hjn]
          have hpo := HOk.out _ (List.getElem_mem hjn)
          rw [sx_get hjn] at hpo
          have HT2 : Hid (Lp ++ l.take (j + 1) = (Lp ++ l.take j) ++ [sx l j]) := by show _ = _; rw [hT2, List.append_assoc]
          have hl5 : (Lp ++ l.take j).length ≤ 5000 := by have := HLe.out; rw [List.length_append, List.length_take]; omega
          have e2 : IntKind.i64.wrap ((j : Int) + 1) = ((j + 1 : Nat) : Int) := by rw [show (j : Int) + 1 = ((j + 1 : Nat) : Int) by omega]; exact wr_in (by omega) (by have := HLe.out; have := HNl.out; omega)
          generalize sx l j = p at *
          generalize Lp ++ l.take j = LL at *
          have FP := At.new2 wr (.int .i64 p.1) (.int .i64 p.2) 52
          have E1 := E.out.below ((Below.refl _ _).alloc (Nat.le_refl _) (.cells #[.int .i64 p.1, .int .i64 p.2] 52))
          have hMl : w.heap.size < wr.heap.size := by obtain ⟨⟨D, hm, _⟩, _⟩ := E.out; exact hm.lt
          obtain ⟨B, hB⟩ : ∃ B, B = wr.heap.size := ⟨_, rfl⟩
          clear h2 hjn hT2 E db
          go_upto_region 8 with fail
          rw [← hB] at FP ⊢
          rw [← hB] at hMl
          generalize wr.alloc (.cells #[.int .i64 p.1, .int .i64 p.2] 52) = W1 at *
          obtain ⟨⟨D, hom, hcd⟩, hG1⟩ := E1
          have hml : 100000 ≤ maxLen := by decide
          have hcl : LL.count p ≤ LL.length := List.count_le_length
          obtain ⟨c, st, v0, w1, w2, hc, hr1, hr2, hr4, hr3, hom2, hg1, hg2⟩ := cnt_step (w := W1.drew) hom.drew hcd hpo (by omega) (by omega)
          have ec : IntKind.i64.wrap (c + 1) = c + 1 := by rw [hc]; exact wr_in (by omega) (by omega)
          have FP1 := FP.drew.grw hg1 (by intro e; cases e; omega)
          have FP2 := FP.drew.grw hg2 (by intro e; cases e; omega)
          have HE2 : Hid (CS w w2 (LL ++ [p])) := by
            rw [hc] at hom2
            exact ⟨⟨_, by rw [List.length_append]; exact hom2, hcd.step hpo⟩, Below.grown hG1.drew.out hg2 hG1.drew.out.size (fun k hk => by cases hk; exact Nat.le_refl _)⟩
          rw [← HT2.out] at HE2
          clear hom hcd hG1 hml hcl hc hom2 hg1 hg2 hB hpo hl5 HT2 d0 d1 ix2 hMl
          refine wp_region_held_drew (S := (fun w' => w'.cell? ⟨B, 0, none⟩ = some (.int .i64 p.1) ∧ w'.cell? ⟨B, 1, none⟩ = some (.int .i64 p.2))) (by kernel_rfl) ?_ (fun hHeld => ?_)
          · (try dsimp only); (first | exact FP.c2 | exact FP1.c2 | exact FP2.c2)
          refine wt (i := 0) (v := ?vc0x2) rfl ?hc0x2 ?rc0x2
          case hc0x2 => (intro w hSw; (try dsimp only at hSw); go_simp; try with_reducible rfl)
          (try simp only [Act.put, lq1, lq2, lq4, lq5, lq6])
          refine wt (i := 1) (v := ?vc1x5) rfl ?hc1x5 ?rc1x5
          case hc1x5 => (intro w hSw; (try dsimp only at hSw); go_simp; try with_reducible rfl)
          (try simp only [Act.put, lq1, lq2, lq3, lq4, lq5, lq6])
          refine wpAnyH_ready (rs := [2, 4]) (by kernel_rfl) (by simp) ?_
          refine AllReadyH.cons rfl (fun K hK => ?_) (AllReadyH.cons rfl (fun K hK => ?_) AllReadyH.nil)
          · skip
            go_simp
            refine hK.out _ _ ?_ (fun hHeld => ?_)
            · (try dsimp only); (first | exact FP.c2 | exact FP1.c2 | exact FP2.c2)
            clear hK K
            refine wt (i := 3) (v := ?vc3x15) rfl ?hc3x15 ?rc3x15
            case hc3x15 => (intro w hSw; (try dsimp only at hSw); go_simp; try with_reducible rfl)
            (try simp only [Act.put, lq1, lq2, lq3, lq4, lq5, lq6])
            refine wpAnyH_ready (rs := [4]) (by kernel_rfl) (by simp) ?_
            refine AllReadyH.cons rfl (fun K hK => ?_) AllReadyH.nil
            go_simp
            refine hK.out _ _ ?_ (fun hHeld => ?_)
            · (try dsimp only); (first | exact FP.c2 | exact FP1.c2 | exact FP2.c2)
            clear hK K
            refine wt (i := 5) (v := ?vc5x24) rfl ?hc5x24 ?rc5x24
            case hc5x24 => (intro w hSw; (try dsimp only at hSw); go_simp; try with_reducible rfl)
            (try simp only [Act.put, lq1, lq2, lq3, lq4, lq5, lq6])
            refine wpAnyH_ready (rs := [6]) (by kernel_rfl) (by simp) ?_
            refine AllReadyH.cons rfl (fun K hK => ?_) AllReadyH.nil
            go_simp
            refine hK.out _ _ ?_ (fun hHeld => ?_)
            · (try dsimp only); (first | exact FP.c2 | exact FP1.c2 | exact FP2.c2)
            clear hK K
            refine wpAnyH_done (by kernel_rfl) ?_ _
            go_wp2
            go_roundw
            case rel => exact ⟨j + 1, HJN.out, by go_num, HE2⟩
            case measure => have := HJN.out; simp [intOf]; omega
          · skip
            go_simp
            refine hK.out _ _ ?_ (fun hHeld => ?_)
            · (try dsimp only); (first | exact FP.c2 | exact FP1.c2 | exact FP2.c2)
            clear hK K
            refine wt (i := 5) (v := ?vc5x43) rfl ?hc5x43 ?rc5x43
            case hc5x43 => (intro w hSw; (try dsimp only at hSw); go_simp; try with_reducible rfl)
            (try simp only [Act.put, lq1, lq2, lq3, lq4, lq5, lq6])
            refine wpAnyH_ready (rs := [2]) (by kernel_rfl) (by simp) ?_
            refine AllReadyH.cons rfl (fun K hK => ?_) AllReadyH.nil
            go_simp
            refine hK.out _ _ ?_ (fun hHeld => ?_)
            · (try dsimp only); (first | exact FP.c2 | exact FP1.c2 | exact FP2.c2)
            clear hK K
            refine wt (i := 3) (v := ?vc3x52) rfl ?hc3x52 ?rc3x52
            case hc3x52 => (intro w hSw; (try dsimp only at hSw); go_simp; try with_reducible rfl)
            (try simp only [Act.put, lq1, lq2, lq3, lq4, lq5, lq6])
            refine wpAnyH_ready (rs := [6]) (by kernel_rfl) (by simp) ?_
            refine AllReadyH.cons rfl (fun K hK => ?_) AllReadyH.nil
            go_simp
            refine hK.out _ _ ?_ (fun hHeld => ?_)
            · (try dsimp only); (first | exact FP.c2 | exact FP1.c2 | exact FP2.c2)
            clear hK K
            refine wpAnyH_done (by kernel_rfl) ?_ _
            go_wp2
            go_roundw
            case rel => exact ⟨j + 1, HJN.out, by go_num, HE2⟩
            case measure => have := HJN.out; simp [intOf]; omega
end Go.Proofs.YtnadgoomkaldkaaDoor
