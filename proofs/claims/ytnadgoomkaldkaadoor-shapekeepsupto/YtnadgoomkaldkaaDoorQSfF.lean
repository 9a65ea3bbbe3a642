/-
  shape.crowded.
-/
import Derived.Test.YtnadgoomkaldkaaDoorQSfP
import Derived.Test.YtnadgoomkaldkaaDoorQSrH
namespace Go.Proofs.YtnadgoomkaldkaaDoor
open Go.RowKit Go.Maps
attribute [local go_sem ↓] Go.wp_at_zero Go.wp_at_succ

/-- A slice of slices of points, none of which is empty: each has its address. -/
structure LLk (w : World) (ad : Option Addr) (b o cap : Nat) (Ls : List (List Sp)) : Prop where
  row : ∀ i, i < Ls.length → (∃ b' o' cap', w.cell? ⟨b, o + i, none⟩ = some (.slice (some ⟨b', o', none⟩) (lx Ls i).length cap') ∧ (lx Ls i).length ≤ cap' ∧ SSl w (some ⟨b', o', none⟩) b' o' cap' (lx Ls i)) ∧ b < w.heap.size
  ix : ∀ k : Nat, k < Ls.length → ∀ w, (Instr.indexAt 30 (.slice ad Ls.length cap) (.int .i64 k)).run Tryd.prog w = .ok (.pointer (some ⟨b, o + k, none⟩)) w
theorem LLk.ll {w : World} {ad : Option Addr} {b o cap : Nat} {Ls : List (List Sp)} (h : LLk w ad b o cap Ls) : LLs w ad b o cap Ls :=
  ⟨fun i hi => by
    obtain ⟨⟨b', o', cap', h1, -, h2⟩, h3⟩ := h.row i hi
    exact ⟨⟨_, b', o', cap', h1, h2⟩, h3⟩, h.ix⟩
theorem LLk.below {W w' : World} {ad : Option Addr} {b o cap : Nat} {Ls : List (List Sp)} (h : LLk W ad b o cap Ls) (hB : Below W.heap.size W w') : LLk w' ad b o cap Ls :=
  ⟨fun i hi => by
    obtain ⟨⟨b', o', cap', h1, h0, h2⟩, h3⟩ := h.row i hi
    exact ⟨⟨b', o', cap', (hB.cell (p := ⟨b, o + i, none⟩) h3).trans h1, h0, h2.below hB⟩, Nat.lt_of_lt_of_le h3 hB.size⟩, h.ix⟩
theorem spmid (b o n cap : Nat) (h1 : 2 ≤ n) (h2 : n ≤ cap) (z : Int) (hz : z = (n : Int) - 1) (w : World) : (Instr.slice 43 (.slice (some ⟨b, o, none⟩) n cap) (some (.int .i64 1)) (some (.int .i64 z)) none).run Tryd.prog w = .ok (.slice (some ⟨b, o + 2, none⟩) (n - 2) (cap - 1)) w := by
  subst hz
  have hu : Tryd.prog.underlying 43 = some (.slice (Tryd.prog.elem 43)) := by kernel_rfl
  have hs : (sizeOf (Tryd.prog.elem 43)).run Tryd.prog w = .ok 2 w := by kernel_rfl
  rw [run_slice_lh w 43 _ _ _ hu .i64 .i64 _ _ (by omega) (by omega) (by omega), hs]
  simp [Result.andThen, sliced, Addr.add]
  omega
/-- The inner points. -/
def midL (l : List Sp) : List Sp := (List.range (l.length - 2)).map (fun j => sx l (j + 1))
theorem midL_len (l : List Sp) : (midL l).length = l.length - 2 := by simp [midL]
theorem midL_at {l : List Sp} {j : Nat} (h : j < l.length - 2) : sx (midL l) j = sx l (j + 1) := by unfold midL; rw [← sx_get (by simpa using h)]; simp
theorem SSl.mid {w : World} {b o cap : Nat} {l : List Sp} (h : SSl w (some ⟨b, o, none⟩) b o cap l) : SSl w (some ⟨b, o + 2, none⟩) b (o + 2) (cap - 1) (midL l) :=
  ⟨fun i hi => by
    rw [midL_len] at hi
    rw [midL_at hi]
    have := h.row (i + 1) (by omega)
    rw [show o + 2 + i * 2 = o + (i + 1) * 2 by omega]
    exact this, fun k hk w => sindex b (o + 2) _ _ k hk w⟩
/-- Is an inner point of the first i arcs a point once more? -/
def cwU (Ls : List (List Sp)) (i : Nat) : Prop := ∃ j, j < i ∧ ∃ k, (0 < k ∧ k + 1 < (lx Ls j).length) ∧ 1 < Ls.flatten.count (sx (lx Ls j) k)
noncomputable def cwB (Ls : List (List Sp)) : Bool := @decide (cwP Ls) (Classical.propDecidable _)
theorem cwB_t {Ls : List (List Sp)} (h : cwP Ls) : cwB Ls = true := by unfold cwB; exact @decide_eq_true _ (Classical.propDecidable _) h
theorem cwB_f {Ls : List (List Sp)} (h : ¬ cwP Ls) : cwB Ls = false := by unfold cwB; exact @decide_eq_false _ (Classical.propDecidable _) h
set_option maxRecDepth 4000 in
set_option maxHeartbeats 8000000 in
theorem crowded_any {ad : Option Addr} {b o cap : Nat} {Ls : List (List Sp)} (hok : ∀ l ∈ Ls, ∀ p ∈ l, okS p) (hlen : Ls.flatten.length ≤ 5000) (hN : Ls.length ≤ 5000) (h2 : ∀ i, i < Ls.length → 2 ≤ (lx Ls i).length) (w : World) (h : LLk w ad b o cap Ls) : Calls Tryd.prog 26 #[.slice ad Ls.length cap] w fun e w' => e = .returned (.bool (cwB Ls)) ∧ Gr w w' := by
  have C1 := hidb (counted_any hok hlen hN w h.ll)
  have HR := hidb h
  have H2 := hidb h2
  have HOk : Hid (∀ i, i < Ls.length → ∀ k, k < (lx Ls i).length → okS (sx (lx Ls i) k)) := fun i hi k hk => by
    have hm : lx Ls i ∈ Ls := by unfold lx; rw [List.getD_eq_getElem?_getD, List.getElem?_eq_getElem hi]; exact List.getElem_mem hi
    rw [← sx_get hk]
    exact hok _ hm _ (List.getElem_mem hk)
  have HLl : Hid (∀ i, i < Ls.length → (lx Ls i).length ≤ 5000) := fun i hi => by
    have h3 : Ls.flatten = (Ls.take i).flatten ++ (lx Ls i ++ (Ls.drop (i + 1)).flatten) := by
      rw [← List.flatten_cons, ← List.flatten_append]
      congr 1
      have : lx Ls i = Ls[i] := by unfold lx; simp [hi]
      rw [this, List.getElem_cons_drop, List.take_append_drop]
    rw [h3] at hlen
    simp only [List.length_append] at hlen
    omega
  have HCt := hidb (fun x => List.count_le_length (a := x) (l := Ls.flatten))
  have HLen := hidb hlen
  have HX := hidb h.ix
  obtain ⟨N, hNn⟩ : ∃ N, N = Ls.length := ⟨_, rfl⟩
  have HN := hidb hNn
  rw [← hNn] at C1 HX hN ⊢
  have HNb := hidb hN
  clear hok hlen hN h2 h hNn
  go_enter Tryd.func26, Tryd.ntmps26
  go_wp2_with fail
  refine C1.out.mono ?_
  rintro e w1 ⟨rfl, hC⟩
  have E0 : Hid (CS w w1 Ls.flatten ∧ ¬ cwU Ls 0) := ⟨hC, fun ⟨j, hj, _⟩ => absurd hj (Nat.not_lt_zero _)⟩
  obtain ⟨M, hM⟩ : ∃ z, z = w.heap.size := ⟨_, rfl⟩
  rw [← hM]
  have HM := hidb hM
  clear hC C1 hM
  go_wp2
  go_loopw [12] (fun t wr => ∃ i : Nat, i ≤ N ∧ t = .int .i64 (i : Int) ∧ Hid (CS w wr Ls.flatten ∧ ¬ cwU Ls i)) (fun t _ => N - (intOf t).toNat)
  case atStart => exact ⟨0, Nat.zero_le _, rfl, E0⟩
  case round =>
    clear E0
    obtain ⟨i, hi, rfl, E⟩ := hrel
    by_cases h1 : ¬ i < N
    · have h1' : ¬ (i : Int) < (N : Int) := by omega
      have HZ : Hid (cwB Ls = false ∧ Gr w wr) := by
        refine ⟨cwB_f (fun h => E.out.2 ?_), E.out.1.2⟩
        have : i = Ls.length := by have := HN.out; omega
        rw [this]; exact h
      clear h1 E
      go_wp2
      go_ret
      exact ⟨by rw [HZ.out.1]; rfl, HZ.out.2⟩
    · have h1' : (i : Int) < (N : Int) := by omega
      have hiN : i < N := by omega
      have hiL : i < Ls.length := by rw [← HN.out]; exact hiN
      have H1 := hidb hiN
      have e1 : IntKind.i64.wrap ((i : Int) + 1) = ((i + 1 : Nat) : Int) := by rw [show (i : Int) + 1 = ((i + 1 : Nat) : Int) by omega]; exact wr_in (by omega) (by have := HNb.out; omega)
      have HE1 := hidb e1
      obtain ⟨⟨b', o', cap', c0w, hcap, hS⟩, cb⟩ := HR.out.row i hiL
      have c0 := (E.out.1.2.out.cell (p := ⟨b, o + i, none⟩) cb).trans c0w
      have ix := HX.out i hiN
      have hl2 := H2.out i hiL
      have hl5 := HLl.out i hiL
      have HOi := hidb (HOk.out i hiL)
      have HUn : Hid (∀ d : Prop, (d ↔ ∃ k, (0 < k ∧ k + 1 < (lx Ls i).length) ∧ 1 < Ls.flatten.count (sx (lx Ls i) k)) → ¬ d → ¬ cwU Ls (i + 1)) := fun d hd hn ⟨j, hj, hk⟩ => by
        by_cases e : j = i
        · subst e; exact hn (hd.2 hk)
        · exact E.out.2 ⟨j, by omega, hk⟩
      have HYe : Hid (∀ k, 0 < k → k + 1 < (lx Ls i).length → 1 < Ls.flatten.count (sx (lx Ls i) k) → cwP Ls) := fun k h0 hk hc => ⟨i, hiL, k, ⟨h0, hk⟩, hc⟩
      have EC := hidb E.out.1
      generalize lx Ls i = l at *
      have HMd := hidb hS.mid
      obtain ⟨n, hn⟩ : ∃ n, n = l.length := ⟨_, rfl⟩
      rw [← hn] at c0 hcap hl2 hl5
      obtain ⟨z, hz⟩ : ∃ z : Int, z = (n : Int) - 1 := ⟨_, rfl⟩
      have e2 : IntKind.i64.wrap ((n : Int) - 1) = z := by rw [hz]; exact wr_in (by omega) (by omega)
      have hsl := spmid b' o' n cap' hl2 hcap z hz
      obtain ⟨q, hq⟩ : ∃ q, q = n - 2 := ⟨_, rfl⟩
      rw [← hq] at hsl
      have HQ := hidb (show q = n - 2 ∧ 2 ≤ n ∧ n ≤ 5000 ∧ n = l.length from ⟨hq, hl2, hl5, hn⟩)
      have HXm : Hid (∀ k : Nat, k < q → ∀ w, (Instr.indexAt 43 (.slice (some ⟨b', o' + 2, none⟩) q (cap' - 1)) (.int .i64 k)).run Tryd.prog w = .ok (.pointer (some ⟨b', o' + 2 + k * 2, none⟩)) w) := fun k hk w => sindex b' (o' + 2) q (cap' - 1) k hk w
      have F0 : Hid (CS w wr Ls.flatten ∧ ∀ k, 0 < k → k < 0 + 1 → ¬ 1 < Ls.flatten.count (sx l k)) := ⟨EC.out, fun k h1 h2 => by omega⟩
      clear h1 hiN hiL e1 c0w cb hS hl2 hl5 hz hq hn hcap E EC
      generalize cap' - 1 = capm at *
      go_wp2
      go_loopw [22] (fun t wx => ∃ j : Nat, j ≤ q ∧ t = .int .i64 (j : Int) ∧ Hid (CS w wx Ls.flatten ∧ ∀ k, 0 < k → k < j + 1 → ¬ 1 < Ls.flatten.count (sx l k))) (fun t _ => q - (intOf t).toNat)
      case atStart => exact ⟨0, Nat.zero_le _, rfl, F0⟩
      case round =>
        clear F0 c0
        obtain ⟨j, hj, rfl, F⟩ := hrel
        by_cases h2 : ¬ j < q
        · have h2' : ¬ (j : Int) < (q : Int) := by omega
          have E2 : Hid (CS w wr Ls.flatten ∧ ¬ cwU Ls (i + 1)) := ⟨F.out.1, HUn.out _ Iff.rfl (fun ⟨k, ⟨h0, hk⟩, hc⟩ => F.out.2 k h0 (by have := HQ.out; omega) hc)⟩
          have e1 := HE1.out
          clear h2 F
          go_wp2
          go_roundw
          case rel => exact ⟨i + 1, H1.out, by go_num, E2⟩
          case measure => have := H1.out; simp [intOf]; omega
        · have h2' : (j : Int) < (q : Int) := by omega
          have hjq : j < q := by omega
          have HJ := hidb hjq
          have e1 : IntKind.i64.wrap ((j : Int) + 1) = ((j + 1 : Nat) : Int) := by rw [show (j : Int) + 1 = ((j + 1 : Nat) : Int) by omega]; exact wr_in (by omega) (by have := HQ.out; omega)
          have ixm := HXm.out j hjq
          obtain ⟨⟨r1, r2⟩, rb⟩ := (HMd.out.below F.out.1.2.out).row j (by rw [midL_len]; have := HQ.out; omega)
          rw [midL_at (by have := HQ.out; omega)] at r1 r2
          have hp := HOi.out (j + 1) (by have := HQ.out; omega)
          have HCc := hidb (HCt.out (sx l (j + 1)))
          have HJ1 : Hid (∀ (hne : ¬ 1 < Ls.flatten.count (sx l (j + 1))), ∀ k, 0 < k → k < j + 1 + 1 → ¬ 1 < Ls.flatten.count (sx l k)) := fun hne k h0 hk => by
            by_cases e : k = j + 1
            · rw [e]; exact hne
            · exact F.out.2 k h0 (by omega)
          have HJ2 := hidb (HYe.out (j + 1) (by omega) (by have := HQ.out; omega))
          have FC := hidb (CS.below F.out.1 ((Gr.refl wr).alloc (.cells #[.int .i64 (sx l (j + 1)).1, .int .i64 (sx l (j + 1)).2] 52)).out)
          obtain ⟨⟨D, hown, hcd⟩, hG⟩ := FC.out
          obtain ⟨c, hrun, hat, hwc⟩ := hown.lookup_int spotKeyed undMp (by kernel_rfl) (zeroI _) (spot_key hp)
          rw [hcd.cnt _ hp] at hat
          have hcc : c = (Ls.flatten.count (sx l (j + 1)) : Int) := by simpa using hat.symm
          have HCq := hidb hcc
          rw [← HM.out] at hrun
          generalize sx l (j + 1) = p at *
          obtain ⟨px, py⟩ := p
          dsimp only at r1 r2 hrun FC
          clear h2 hjq hat hwc hcc hown hcd hG hp rb F
          by_cases hc1 : 1 < c
          · have HZ := hidb (cwB_t (HJ2.out (by have := HCq.out; omega)))
            go_wp2
            go_ret
            exact ⟨by rw [HZ.out]; rfl, FC.out.2⟩
          · have F2 := hidb (show CS w (wr.alloc (.cells #[.int .i64 px, .int .i64 py] 52)) Ls.flatten ∧ ∀ k, 0 < k → k < j + 1 + 1 → ¬ 1 < Ls.flatten.count (sx l k) from ⟨FC.out, HJ1.out (by have := HCq.out; omega)⟩)
            go_wp2
            go_roundw
            case rel => exact ⟨j + 1, HJ.out, by go_num, F2⟩
            case measure => have := HJ.out; simp [intOf]; omega
end Go.Proofs.YtnadgoomkaldkaaDoor
