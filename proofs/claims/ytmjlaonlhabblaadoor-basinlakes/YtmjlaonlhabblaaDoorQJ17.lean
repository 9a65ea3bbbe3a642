/-
  slices.Equal and mercatorlaw4.sameInts of any two lists; slices.ContainsFunc over lists.; slices.IndexFunc and ContainsFunc over lists, with the closure of basin.Depth.; basin.Depth.; BasinLakes: the lakes as the statement looks for them, one by one. No Go text.
-/
import Derived.Test.YtmjlaonlhabblaaDoorQJ16
import Derived.Test.YtmjlaonlhabblaaDoorQJ1
import Derived.Lib.MinMax
namespace Go.Proofs.YtmjlaonlhabblaaDoor
open Go.RowKit
attribute [local go_sem ↓] Go.wp_at_zero Go.wp_at_succ

set_option maxRecDepth 4000 in
set_option maxHeartbeats 4000000 in
theorem slEqual_any {ad ad' : Option Addr} {b b' o o' cap cap' : Nat} {l l' : List Int} (hn : l.length ≤ 20000) (hn' : l'.length ≤ 20000) (w : World) (h : ISl w ad b o cap l) (h' : ISl w ad' b' o' cap' l') : Calls Tryd.prog 37 #[.slice ad l.length cap, .slice ad' l'.length cap'] w fun e w' => e = .returned (.bool (decide (l = l'))) ∧ Gr w w' := by
  obtain ⟨bb, hbb⟩ : ∃ bb, bb = decide (l = l') := ⟨_, rfl⟩
  rw [← hbb]
  have HBB := hidb hbb
  clear hbb
  have HA := hidb h
  have HB := hidb h'
  clear h h'
  obtain ⟨p, hp⟩ : ∃ p, p = l.length := ⟨_, rfl⟩
  obtain ⟨p', hp'⟩ : ∃ p, p = l'.length := ⟨_, rfl⟩
  have HI : Hid (∀ k : Nat, k < p → ∀ w, (Instr.indexAt 30 (.slice ad p cap) (.int .i64 k)).run Tryd.prog w = .ok (.pointer (some ⟨b, o + k, none⟩)) w) := by rw [hp]; exact HA.out.ix
  have HI' : Hid (∀ k : Nat, k < p' → ∀ w, (Instr.indexAt 30 (.slice ad' p' cap') (.int .i64 k)).run Tryd.prog w = .ok (.pointer (some ⟨b', o' + k, none⟩)) w) := by rw [hp']; exact HB.out.ix
  rw [← hp] at hn ⊢
  rw [← hp'] at hn' ⊢
  have HP := hidb hp
  have HP' := hidb hp'
  clear hp hp'
  by_cases hl : p = p'
  · subst hl
    go_enter Tryd.func37, Tryd.ntmps37
    go_wp2
    go_loopw [13] (fun t wr => ∃ (k : Nat), k ≤ p ∧ t = .int .i64 k ∧ Gr w wr ∧ Hid (l.take k = l'.take k)) (fun t _ => p - (intOf t).toNat)
    case atStart => exact ⟨0, by omega, rfl, Gr.refl _, hidb rfl⟩
    case round =>
      obtain ⟨k, hk, rfl, hB, HT⟩ := hrel
      by_cases h1 : k < p
      · have h1a : k < l.length := by rw [← HP.out]; exact h1
        have h1b : k < l'.length := by rw [← HP'.out]; exact h1
        have ca := (HA.out.below hB.out).cell h1a
        have ca' := (HB.out.below hB.out).cell h1b
        have ixa := HI.out k h1
        have ixa' := HI'.out k h1
        have h1' : (k : Int) < (p : Int) := by omega
        have e5 : IntKind.i64.wrap ((k : Int) + 1) = ((k + 1 : Nat) : Int) := by simp [IntKind.wrap, IntKind.signed, IntKind.bits]; omega
        obtain ⟨x, hx⟩ : ∃ x, x = l[k] := ⟨_, rfl⟩
        obtain ⟨y, hy⟩ : ∃ y, y = l'[k] := ⟨_, rfl⟩
        rw [← hx] at ca
        rw [← hy] at ca'
        by_cases hxy : x = y
        · have HT2 : Hid (l.take (k + 1) = l'.take (k + 1)) := by
            show _ = _
            rw [List.take_succ_eq_append_getElem h1a, List.take_succ_eq_append_getElem h1b, HT.out, ← hx, ← hy, hxy]
          clear hx hy
          subst hxy
          go_upto_region 6 with fail
          go_quiet (fail)
          go_wp2
          go_roundw
          case rel => exact ⟨k + 1, by omega, rfl, by first | exact hB.drew | exact (Gr.drewN (w := w) hB _) | exact hB, HT2⟩
          case measure => simp [intOf]; omega
        · have HF : Hid (bb = false) := by
            show _ = _
            rw [HBB.out]
            refine decide_eq_false fun e => hxy ?_
            subst e
            rw [hx, hy]
          have hxy' : (x == y) = false := by simp [hxy]
          clear hx hy
          go_upto_region 6 with fail
          go_quiet (fail)
          go_wp2
          go_ret
          exact ⟨by have h := HF.out; subst h; rfl, by first | exact hB.drew | exact (Gr.drewN (w := w) hB _) | exact hB⟩
      · have h1' : ¬ (k : Int) < (p : Int) := by omega
        have HF : Hid (bb = true) := by
          show _ = _
          rw [HBB.out]
          have hkp : k = p := by omega
          have e1 := HT.out
          rw [hkp, HP.out, List.take_length] at e1
          rw [← HP.out, HP'.out, List.take_length] at e1
          exact decide_eq_true e1
        clear h1
        go_wp2
        go_ret
        exact ⟨by have h := HF.out; subst h; rfl, hB⟩
  · have HF : Hid (bb = false) := by
      show _ = _
      rw [HBB.out]
      exact decide_eq_false fun e => hl (by rw [HP.out, HP'.out, e])
    have hl' : ¬ (p : Int) = (p' : Int) := by omega
    have hl2 : ((p : Int) == (p' : Int)) = false := by simp only [beq_eq_false_iff_ne, ne_eq]; exact hl'
    clear hl
    go_enter Tryd.func37, Tryd.ntmps37
    go_wp2
    go_ret
    exact ⟨by have h := HF.out; subst h; rfl, Gr.refl _⟩
set_option maxRecDepth 4000 in
set_option maxHeartbeats 4000000 in
theorem sameInts_dec {ad ad' : Option Addr} {b b' o o' cap cap' : Nat} {l l' : List Int} (hn : l.length ≤ 20000) (hn' : l'.length ≤ 20000) (w : World) (h : ISl w ad b o cap l) (h' : ISl w ad' b' o' cap' l') : Calls Tryd.prog 13 #[.slice ad l.length cap, .slice ad' l'.length cap'] w fun e w' => e = .returned (.bool (decide (l = l'))) ∧ Gr w w' := by
  obtain ⟨bb, hbb⟩ : ∃ bb, bb = decide (l = l') := ⟨_, rfl⟩
  rw [← hbb]
  have HBB := hidb hbb
  clear hbb
  have HA := hidb h
  have HB := hidb h'
  clear h h'
  obtain ⟨p, hp⟩ : ∃ p, p = l.length := ⟨_, rfl⟩
  obtain ⟨p', hp'⟩ : ∃ p, p = l'.length := ⟨_, rfl⟩
  have HI : Hid (∀ k : Nat, k < p → ∀ w, (Instr.indexAt 30 (.slice ad p cap) (.int .i64 k)).run Tryd.prog w = .ok (.pointer (some ⟨b, o + k, none⟩)) w) := by rw [hp]; exact HA.out.ix
  have HI' : Hid (∀ k : Nat, k < p' → ∀ w, (Instr.indexAt 30 (.slice ad' p' cap') (.int .i64 k)).run Tryd.prog w = .ok (.pointer (some ⟨b', o' + k, none⟩)) w) := by rw [hp']; exact HB.out.ix
  rw [← hp] at hn ⊢
  rw [← hp'] at hn' ⊢
  have HP := hidb hp
  have HP' := hidb hp'
  clear hp hp'
  by_cases hl : p = p'
  · subst hl
    go_enter Tryd.func13, Tryd.ntmps13
    go_wp2
    go_loopw [5] (fun t wr => ∃ (k : Nat), k ≤ p ∧ t = .int .i64 k ∧ Gr w wr ∧ Hid (l.take k = l'.take k)) (fun t _ => p - (intOf t).toNat)
    case atStart => exact ⟨0, by omega, rfl, Gr.refl _, hidb rfl⟩
    case round =>
      obtain ⟨k, hk, rfl, hB, HT⟩ := hrel
      by_cases h1 : k < p
      · have h1a : k < l.length := by rw [← HP.out]; exact h1
        have h1b : k < l'.length := by rw [← HP'.out]; exact h1
        have ca := (HA.out.below hB.out).cell h1a
        have ca' := (HB.out.below hB.out).cell h1b
        have ixa := HI.out k h1
        have ixa' := HI'.out k h1
        have h1' : (k : Int) < (p : Int) := by omega
        have e5 : IntKind.i64.wrap ((k : Int) + 1) = ((k + 1 : Nat) : Int) := by simp [IntKind.wrap, IntKind.signed, IntKind.bits]; omega
        obtain ⟨x, hx⟩ : ∃ x, x = l[k] := ⟨_, rfl⟩
        obtain ⟨y, hy⟩ : ∃ y, y = l'[k] := ⟨_, rfl⟩
        rw [← hx] at ca
        rw [← hy] at ca'
        by_cases hxy : x = y
        · have HT2 : Hid (l.take (k + 1) = l'.take (k + 1)) := by
            show _ = _
            rw [List.take_succ_eq_append_getElem h1a, List.take_succ_eq_append_getElem h1b, HT.out, ← hx, ← hy, hxy]
          clear hx hy
          subst hxy
          go_upto_region 6 with fail
          go_quiet (fail)
          go_wp2
          go_roundw
          case rel => exact ⟨k + 1, by omega, rfl, by first | exact hB.drew | exact (Gr.drewN (w := w) hB _) | exact hB, HT2⟩
          case measure => simp [intOf]; omega
        · have HF : Hid (bb = false) := by
            show _ = _
            rw [HBB.out]
            refine decide_eq_false fun e => hxy ?_
            subst e
            rw [hx, hy]
          have hxy' : (x == y) = false := by simp [hxy]
          clear hx hy
          go_upto_region 6 with fail
          go_quiet (fail)
          go_wp2
          go_ret
          exact ⟨by have h := HF.out; subst h; rfl, by first | exact hB.drew | exact (Gr.drewN (w := w) hB _) | exact hB⟩
      · have h1' : ¬ (k : Int) < (p : Int) := by omega
        have HF : Hid (bb = true) := by
          show _ = _
          rw [HBB.out]
          have hkp : k = p := by omega
          have e1 := HT.out
          rw [hkp, HP.out, List.take_length] at e1
          rw [← HP.out, HP'.out, List.take_length] at e1
          exact decide_eq_true e1
        clear h1
        go_wp2
        go_ret
        exact ⟨by have h := HF.out; subst h; rfl, hB⟩
  · have HF : Hid (bb = false) := by
      show _ = _
      rw [HBB.out]
      exact decide_eq_false fun e => hl (by rw [HP.out, HP'.out, e])
    have hl' : ¬ (p : Int) = (p' : Int) := by omega
    have hl2 : ((p : Int) == (p' : Int)) = false := by simp only [beq_eq_false_iff_ne, ne_eq]; exact hl'
    clear hl
    go_enter Tryd.func13, Tryd.ntmps13
    go_wp2
    go_ret
    exact ⟨by have h := HF.out; subst h; rfl, Gr.refl _⟩
end Go.Proofs.YtmjlaonlhabblaaDoor
namespace Go.Proofs.YtmjlaonlhabblaaDoor
open Go.RowKit
attribute [local go_sem ↓] Go.wp_at_zero Go.wp_at_succ

theorem RR.shape {W : World} {base : Nat} {v : Value} {vs : List Value} {Ls : List (List Int)} (h : RR W base v vs Ls) : ∃ ad g cap, v = .slice ad vs.length cap ∧ (∀ k : Nat, k < vs.length → ∀ w, (Instr.indexAt 25 (.slice ad vs.length cap) (.int .i64 k)).run Tryd.prog w = .ok (.pointer (some ⟨g, k, none⟩)) w) ∧ ∀ k : Nat, k < vs.length → g < W.heap.size ∧ W.cell? ⟨g, k, none⟩ = some (vx vs k) := by
  have ho := h.o
  have hlt := ho.lt
  obtain ⟨h1, h2 | ⟨g, cap, cur, hv, -⟩⟩ := ho
  · obtain ⟨rfl, h0⟩ := h2
    exact ⟨none, 0, 0, by rw [h0], fun k hk => by omega, fun k hk => by omega⟩
  · exact ⟨some ⟨g, 0, none⟩, g, cap, hv, fun k hk w => sindex g _ cap k hk w, fun k hk => ⟨(hlt g (by rw [hv]; rfl)).2, (h.cell hv hk).1⟩⟩
theorem clos_any {ad ad' : Option Addr} {b b' o o' cap cap' X : Nat} {l l' : List Int} (hn : l.length ≤ 20000) (hn' : l'.length ≤ 20000) (w : World) (h : ISl w ad b o cap l) (h' : ISl w ad' b' o' cap' l') (hX : w.cell? ⟨X, 0, none⟩ = some (.slice ad' l'.length cap')) : Calls Tryd.prog 36 #[.slice ad l.length cap, .pointer (some ⟨X, 0, none⟩)] w fun e w' => e = .returned (.bool (decide (l = l'))) ∧ Gr w w' := by
  have C := hidb (slEqual_any hn hn' w h h')
  generalize decide (l = l') = bb at *
  clear h h' hn hn'
  go_enter Tryd.func36, Tryd.ntmps36
  go_wp2_with fail
  refine C.out.mono ?_
  rintro e w1 ⟨rfl, hB⟩
  have G := hidb hB
  clear hB
  go_wp2
  go_ret
  exact ⟨rfl, G.out⟩
set_option maxRecDepth 4000 in
set_option maxHeartbeats 4000000 in
theorem indexFunc_any {base X : Nat} {v : Value} {vs : List Value} {Ls : List (List Int)} {ad' : Option Addr} {b' o' cap' : Nat} {l' : List Int} (w : World) (hR : RR w base v vs Ls) (hX : w.cell? ⟨X, 0, none⟩ = some (.slice ad' l'.length cap')) (hXl : X < w.heap.size) (hI : ISl w ad' b' o' cap' l') (hL : ∀ j, (lx Ls j).length ≤ 20000) (hn' : l'.length ≤ 20000) (hK : vs.length ≤ 20000) : Calls Tryd.prog 52 #[v, .func (.func 36) #[] #[.pointer (some ⟨X, 0, none⟩)]] w fun e w' => ∃ z : Int, e = .returned (.int .i64 z) ∧ decide (0 ≤ z) = decide (l' ∈ Ls) ∧ Gr w w' := by
  obtain ⟨ad, g, cap, rfl, hix, hce⟩ := hR.shape
  have HC := hidb (fun (k : Nat) (hk : k < vs.length) (W : World) (hG : Gr w W) => (hG.out.cell (p := ⟨g, k, none⟩) (hce k hk).1).trans (hce k hk).2)
  have HX := hidb (fun (W : World) (hG : Gr w W) => (hG.out.cell (p := ⟨X, 0, none⟩) hXl).trans hX)
  have HF := hidb (fun (k : Nat) (hk : k < vs.length) => own_islb (hR.i k hk))
  have HK := hidb (fun (k : Nat) (W : World) (hG : Gr w W) {ad : Option Addr} {b cap : Nat} (h : ISl w ad b 0 cap (lx Ls k)) => clos_any (hL k) hn' W (h.below hG.out) (hI.below hG.out) (HX.out W hG))
  have HI := hidb hix
  have HN := hidb hR.n
  obtain ⟨K, hKe⟩ : ∃ K, K = vs.length := ⟨_, rfl⟩
  rw [← hKe] at HC HF HI HN hK ⊢
  clear hR hX hXl hI hL hn' hix hce hKe HX
  go_enter Tryd.func52, Tryd.ntmps52
  go_wp2
  go_loopw [8] (fun t wr => ∃ (k : Nat), k ≤ K ∧ t = .int .i64 k ∧ Hid (Gr w wr) ∧ Hid (∀ j, j < k → ¬ lx Ls j = l')) (fun t _ => K - (intOf t).toNat)
  case atStart => exact ⟨0, by omega, rfl, hidb (Gr.refl _), hidb (fun j hj => by omega)⟩
  case round =>
    obtain ⟨k, hk, rfl, G, HT⟩ := hrel
    by_cases h1 : k < K
    · have h1' : (k : Int) < (K : Int) := by omega
      have e5 : IntKind.i64.wrap ((k : Int) + 1) = ((k + 1 : Nat) : Int) := by simp [IntKind.wrap, IntKind.signed, IntKind.bits]; omega
      have ix := HI.out k h1
      have cx := HC.out k h1 wr G.out
      obtain ⟨ad2, b2, cap2, hvx, hisl, -⟩ := HF.out k h1
      rw [hvx] at cx
      have HCl := hidb (HK.out k wr G.out hisl)
      obtain ⟨q, hq⟩ : ∃ q, q = (lx Ls k).length := ⟨_, rfl⟩
      rw [← hq] at cx HCl
      clear hvx hisl hq
      by_cases hh : lx Ls k = l'
      · rw [decide_eq_true hh] at HCl
        have HM : Hid (l' ∈ Ls) := by
          show _ ∈ _
          rw [← hh, ← lx_get (show k < Ls.length by rw [← HN.out]; exact h1)]
          exact List.getElem_mem _
        clear hh
        go_wp2_with fail
        refine HCl.out.mono ?_
        rintro e w1 ⟨rfl, hB⟩
        have G2 := hidb (Gr.step G.out hB.out)
        clear hB cx
        go_wp2
        go_ret
        exact ⟨_, rfl, by rw [decide_eq_true HM.out]; simp, G2.out⟩
      · rw [decide_eq_false hh] at HCl
        have HT2 : Hid (∀ j, j < k + 1 → ¬ lx Ls j = l') := fun j hj => by
          by_cases e : j = k
          · rw [e]; exact hh
          · exact HT.out j (by omega)
        clear hh
        go_wp2_with fail
        refine HCl.out.mono ?_
        rintro e w1 ⟨rfl, hB⟩
        have G2 := hidb (Gr.step G.out hB.out)
        clear hB cx
        go_wp2
        go_roundw
        case rel => exact ⟨k + 1, by omega, rfl, G2, HT2⟩
        case measure => simp [intOf]; omega
    · have h1' : ¬ (k : Int) < (K : Int) := by omega
      have HM : Hid (¬ l' ∈ Ls) := by
        intro hm
        obtain ⟨j, hj, e⟩ := List.getElem_of_mem hm
        rw [lx_get hj] at e
        exact HT.out j (by rw [← HN.out] at hj; omega) e
      clear h1
      go_wp2
      go_ret
      exact ⟨_, rfl, by first | (rw [decide_eq_false HM.out]; rfl) | exact ⟨fun h => by omega, fun h => absurd h HM.out⟩, G.out⟩
theorem containsFunc_any {base X : Nat} {v : Value} {vs : List Value} {Ls : List (List Int)} {ad' : Option Addr} {b' o' cap' : Nat} {l' : List Int} (w : World) (hR : RR w base v vs Ls) (hX : w.cell? ⟨X, 0, none⟩ = some (.slice ad' l'.length cap')) (hXl : X < w.heap.size) (hI : ISl w ad' b' o' cap' l') (hL : ∀ j, (lx Ls j).length ≤ 20000) (hn' : l'.length ≤ 20000) (hK : vs.length ≤ 20000) : Calls Tryd.prog 35 #[v, .func (.func 36) #[] #[.pointer (some ⟨X, 0, none⟩)]] w fun e w' => e = .returned (.bool (decide (l' ∈ Ls))) ∧ Gr w w' := by
  have C := hidb (indexFunc_any w hR hX hXl hI hL hn' hK)
  generalize decide (l' ∈ Ls) = bb at *
  clear hR hX hXl hI hL hn' hK
  go_enter Tryd.func35, Tryd.ntmps35
  go_wp2_with fail
  refine C.out.mono ?_
  rintro e w1 ⟨z, rfl, hz, hB⟩
  have G := hidb (show decide (0 ≤ z) = bb ∧ Gr w w1 from ⟨hz, hB⟩)
  clear hz hB
  go_wp2
  go_ret
  exact ⟨by have h := G.out.1; subst h; rfl, G.out.2⟩
end Go.Proofs.YtmjlaonlhabblaaDoor
namespace Go.Proofs.YtmjlaonlhabblaaDoor
open Go.RowKit
attribute [local go_sem ↓] Go.wp_at_zero Go.wp_at_succ

/-- The lakes of a raster, cell by cell. -/
abbrev lkL (m n : Nat) (l : List Int) : List (List Int) := lsK (lak m n l) (wts m n l l.length) (wts m n l l.length).length
/-- The deepest and all of what lies on the first k of some cells. -/
def dpX (m n : Nat) (l lk : List Int) (k : Nat) : Int := (lk.take k).foldl (fun a c => max a (gl (dpK m n l l.length) c.toNat)) 0
def dpT (m n : Nat) (l lk : List Int) (k : Nat) : Int := (lk.take k).foldl (fun a c => a + gl (dpK m n l l.length) c.toNat) 0
theorem dpX_succ {m n : Nat} {l lk : List Int} {k : Nat} (h : k < lk.length) : dpX m n l lk (k + 1) = max (dpX m n l lk k) (gl (dpK m n l l.length) lk[k].toNat) := by unfold dpX; rw [List.take_succ_eq_append_getElem h, List.foldl_append]; rfl
theorem dpT_succ {m n : Nat} {l lk : List Int} {k : Nat} (h : k < lk.length) : dpT m n l lk (k + 1) = dpT m n l lk k + gl (dpK m n l l.length) lk[k].toNat := by unfold dpT; rw [List.take_succ_eq_append_getElem h, List.foldl_append]; rfl
theorem dpK_bd {m n : Nat} {l : List Int} (ok : Ok l m n) {i : Nat} (hi : i < l.length) : 0 ≤ gl (dpK m n l l.length) i ∧ gl (dpK m n l l.length) i ≤ 2097152 := by
  rw [dpK_all hi]
  have h1 := ok.hi i
  unfold hiI at h1
  have h2 := fih_ge m n l ok.m1 ok.len hi
  obtain ⟨j, hj, rfl⟩ := oc_all m n l ok.m1 ok.len hi
  have h3 := fih_up ok j hj
  omega
theorem lkL_in {m n : Nat} {l lk : List Int} (h : lk ∈ lkL m n l) : lk.length ≤ l.length ∧ ∀ x ∈ lk, ∃ c : Nat, x = (c : Int) ∧ c < l.length := by
  unfold lkL lsK at h
  rw [List.mem_map] at h
  obtain ⟨r, -, rfl⟩ := h
  unfold grK on
  constructor
  · rw [List.length_map]
    have h1 := List.length_filter_le (fun x => decide (lak m n l x = r)) ((wts m n l l.length).take (wts m n l l.length).length)
    have h2 := wts_len (m := m) (n := n) (l := l) l.length
    rw [List.length_take] at h1
    omega
  · intro x hx
    rw [List.mem_map] at hx
    obtain ⟨c, hc, rfl⟩ := hx
    exact ⟨c, rfl, (wts_mem.1 (List.mem_of_mem_take ((List.mem_filter.1 hc).1))).1⟩
theorem lkL_len (m n : Nat) (l : List Int) : (lkL m n l).length ≤ l.length := by
  unfold lkL
  rw [lsK_len]
  unfold rsK
  have h1 := List.length_filter_le (fun x => decide (lak m n l x = x)) ((wts m n l l.length).take (wts m n l l.length).length)
  have h2 := wts_len (m := m) (n := n) (l := l) l.length
  rw [List.length_take] at h1
  omega
theorem lkL_lx (m n : Nat) (l : List Int) (j : Nat) : (lx (lkL m n l) j).length ≤ l.length := by
  by_cases h : j < (lkL m n l).length
  · rw [← lx_get h]; exact (lkL_in (List.getElem_mem h)).1
  · unfold lx; rw [List.getD_eq_getElem?_getD, List.getElem?_eq_none (by omega)]; simp
theorem dpXT_bd {m n : Nat} {l lk : List Int} (ok : Ok l m n) (h : ∀ x ∈ lk, ∃ c : Nat, x = (c : Int) ∧ c < l.length) : ∀ k, k ≤ lk.length → (0 ≤ dpX m n l lk k ∧ dpX m n l lk k ≤ 2097152) ∧ 0 ≤ dpT m n l lk k ∧ dpT m n l lk k ≤ 2097152 * k := by
  intro k
  induction k with
  | zero => intro _; unfold dpX dpT; simp
  | succ k ih =>
    intro hk
    have h1 : k < lk.length := by omega
    obtain ⟨c, hc, hcl⟩ := h _ (List.getElem_mem h1)
    have h2 := dpK_bd ok hcl
    rw [dpX_succ h1, dpT_succ h1, hc, Int.toNat_natCast]
    have := ih (by omega)
    omega
/-- The two boxes of Depth. -/
structure DE (w W : World) (B : Nat) (t u : List Value) : Prop where
  t : At W B t
  u : At W (B + 1) u
  gr : Gr w W
theorem DE.below {w W w' : World} {B : Nat} {t u : List Value} (h : DE w W B t u) (hB : Below W.heap.size W w') : DE w w' B t u := ⟨At.below hB h.t, At.below hB h.u, Gr.step h.gr hB⟩
theorem DE.new (w : World) (a b c u : Value) (t t' : Nat) : DE w ((w.alloc (.cells #[a, b, c] t)).alloc (.cells #[u] t')) w.heap.size [a, b, c] [u] := ⟨(At.new3 w a b c t).alloc _, At.nx1 _ u t', ((Gr.refl w).alloc _).alloc _⟩
set_option maxRecDepth 4000 in
set_option maxHeartbeats 4000000 in
theorem depth_no (g : Nat → Addr) {W H : Int} {ad : Option Addr} {b o cap : Nat} {l : List Int} (sd : Option Addr) (M scap : Nat) (w : World) (h : ISl w ad b o cap l) (ll : l.length ≤ 20000) (hl : Lai w g) (hv : ¬ vcode W H l = 0) : Calls Tryd.prog 17 #[raV W H (.slice ad l.length cap), .slice sd M scap] w fun e w' => e = .returned (.tuple #[.int .i64 0, .int .i64 0, evc g (vcode W H l)]) ∧ Gr w w' := by
  have PX := hidb (DE.new w (.int .i64 W) (.int .i64 H) (.slice ad l.length cap) (.slice sd M scap) 32 30)
  have C1 := hidb (depths_no g _ (h.below PX.out.gr.out) ll (hl.below PX.out.gr.out) hv)
  rw [evc_of hv] at C1 ⊢
  generalize vcode W H l - 1 = ei at *
  clear h ll hl hv
  go_enter Tryd.func17, Tryd.ntmps17
  obtain ⟨q0, q1, q2⟩ := PX.out.t.c3
  go_wp2_with fail
  refine C1.out.mono ?_
  rintro e w1 ⟨rfl, hB⟩
  have G := hidb (Gr.step PX.out.gr hB.out)
  clear q0 q1 q2 hB PX C1
  go_wp2
  go_ret3
  exact ⟨rfl, G.out⟩
set_option maxRecDepth 4000 in
set_option maxHeartbeats 8000000 in
theorem depth_bad (g : Nat → Addr) {m n Lb Lo Lcap : Nat} {l : List Int} {ad : Option Addr} {b o cap : Nat} {lk : List Int} (w : World) (hR : Rs w Lb Lo Lcap l) (ok : Ok l m n) (hv : vcode m n l = 0) (hl : Lai w g) (hI : ISl w ad b o cap lk) (hn : lk.length ≤ 20000) (hm : ¬ lk ∈ lkL m n l) : Calls Tryd.prog 17 #[raV m n (.slice (some ⟨Lb, Lo, none⟩) l.length Lcap), .slice ad lk.length cap] w fun e w' => e = .returned (.tuple #[.int .i64 0, .int .i64 0, errV g 2]) ∧ Gr w w' := by
  have hlen := ok.len_le
  have PX := hidb (DE.new w (.int .i64 (m : Int)) (.int .i64 (n : Int)) (.slice (some ⟨Lb, Lo, none⟩) l.length Lcap) (.slice ad lk.length cap) 32 30)
  have C1 := hidb (depths_ok g _ (hR.below PX.out.gr.out) ok hv (hl.below PX.out.gr.out))
  have HLa := hidb (fun (W : World) DB (h : At W DB (ir (dpK m n l l.length))) => lakes_any (Lb := Lb) (Lo := Lo) (Lcap := Lcap) W ok h)
  have HCf := hidb (fun (W : World) {base : Nat} {v : Value} {vs : List Value} (hRR : RR W base v vs (lkL m n l)) (hG : Gr w W) (hX : At W (w.heap.size + 1) [.slice ad lk.length cap]) => containsFunc_any W hRR hX.c1 hX.lt (hI.below hG.out) (fun j => by have := lkL_lx m n l j; omega) hn (by rw [hRR.n]; have := lkL_len m n l; omega))
  rw [decide_eq_false hm] at HCf
  have HL := hidb hl
  obtain ⟨N, hN⟩ : ∃ N, N = l.length := ⟨_, rfl⟩
  have HN := hidb hN
  obtain ⟨K, hK⟩ : ∃ K, K = lk.length := ⟨_, rfl⟩
  unfold lkL at HCf
  rw [← hN] at PX C1 HLa HCf ⊢
  rw [← hK] at PX HCf C1 ⊢
  clear hR ok hv hl hN hI hn hm hK hlen
  show Calls Tryd.prog 17 #[.agg #[.int .i64 (m : Int), .int .i64 (n : Int), .slice (some ⟨Lb, Lo, none⟩) N Lcap], _] w _
  go_enter Tryd.func17, Tryd.ntmps17
  obtain ⟨q0, q1, q2⟩ := PX.out.t.c3
  go_wp2_with fail
  refine C1.out.mono ?_
  rintro e w1 ⟨LV, rfl, hA, -, hB⟩
  replace PX := hidb (PX.out.below hB.out)
  have HL2 := hidb (HLa.out w1 LV hA)
  clear q0 q1 q2 hA hB HLa C1
  obtain ⟨q0, q1, q2⟩ := PX.out.t.c3
  go_wp2_with fail
  refine HL2.out.mono ?_
  rintro e w2 ⟨v, rfl, base, vs, k1, k2, k3⟩
  replace PX := hidb (PX.out.below k3.out)
  have HC2 := hidb (HCf.out w2 k1 PX.out.gr PX.out.u)
  clear q0 q1 q2 k1 k2 k3 HL2 HCf
  go_wp2_with fail
  refine HC2.out.mono ?_
  rintro e w3 ⟨rfl, hB⟩
  have G := hidb (Gr.step PX.out.gr hB.out)
  have cE : w3.cell? ⟨0, 0, none⟩ = some (errV g 2) := (HL.out.below G.out.out).cell 2 (by decide)
  clear hB HC2 PX
  go_upto_region 5 with fail
  go_quiet (fail)
  go_wp2
  go_ret3
  exact ⟨rfl, by first | exact G.out | exact G.out.drewN _ | exact G.out.drew⟩
set_option maxRecDepth 4000 in
set_option maxHeartbeats 8000000 in
theorem depth_ok (g : Nat → Addr) {m n Lb Lo Lcap : Nat} {l : List Int} {ad : Option Addr} {b o cap : Nat} {lk : List Int} (w : World) (hR : Rs w Lb Lo Lcap l) (ok : Ok l m n) (hv : vcode m n l = 0) (hl : Lai w g) (hI : ISl w ad b o cap lk) (hm : lk ∈ lkL m n l) : Calls Tryd.prog 17 #[raV m n (.slice (some ⟨Lb, Lo, none⟩) l.length Lcap), .slice ad lk.length cap] w fun e w' => e = .returned (.tuple #[.int .i64 (dpX m n l lk lk.length), .int .i64 (dpT m n l lk lk.length), .nilIface]) ∧ Gr w w' := by
  have hlen := ok.len_le
  have hin := lkL_in hm
  have HBd := hidb (dpXT_bd ok hin.2)
  have HIn := hidb hin.2
  have HMl := hidb (show lk.length ≤ 16384 by have := hin.1; omega)
  have PX := hidb (DE.new w (.int .i64 (m : Int)) (.int .i64 (n : Int)) (.slice (some ⟨Lb, Lo, none⟩) l.length Lcap) (.slice ad lk.length cap) 32 30)
  have C1 := hidb (depths_ok g _ (hR.below PX.out.gr.out) ok hv (hl.below PX.out.gr.out))
  have HLa := hidb (fun (W : World) DB (h : At W DB (ir (dpK m n l l.length))) => lakes_any (Lb := Lb) (Lo := Lo) (Lcap := Lcap) W ok h)
  have HCf := hidb (fun (W : World) {base : Nat} {v : Value} {vs : List Value} (hRR : RR W base v vs (lkL m n l)) (hG : Gr w W) (hX : At W (w.heap.size + 1) [.slice ad lk.length cap]) => containsFunc_any W hRR hX.c1 hX.lt (hI.below hG.out) (fun j => by have := lkL_lx m n l j; omega) (by have := hin.1; omega) (by rw [hRR.n]; have := lkL_len m n l; omega))
  rw [decide_eq_true hm] at HCf
  have HIc := hidb (fun (k : Nat) (hk : k < lk.length) (W : World) (hG : Gr w W) => (hI.below hG.out).cell hk)
  have HIx := hidb hI.ix
  have HXs := hidb (fun (k : Nat) (hk : k < lk.length) => dpX_succ (m := m) (n := n) (l := l) hk)
  have HTs := hidb (fun (k : Nat) (hk : k < lk.length) => dpT_succ (m := m) (n := n) (l := l) hk)
  have HDl : Hid ((dpK m n l l.length).length = l.length) := by show _ = _; unfold dpK; simp
  obtain ⟨N, hN⟩ : ∃ N, N = l.length := ⟨_, rfl⟩
  have HN := hidb hN
  unfold lkL at HCf
  rw [← hN] at PX C1 HLa HCf HIn HXs HTs HDl ⊢
  obtain ⟨K, hK⟩ : ∃ K, K = lk.length := ⟨_, rfl⟩
  have HK := hidb hK
  have HIx2 : Hid (∀ k : Nat, k < K → ∀ w, (Instr.indexAt 30 (.slice ad K cap) (.int .i64 k)).run Tryd.prog w = .ok (.pointer (some ⟨b, o + k, none⟩)) w) := by rw [hK]; exact HIx.out
  rw [← hK] at PX HCf C1 HBd HMl ⊢
  clear hR ok hv hl hN hI hm hK hlen hin HIx
  show Calls Tryd.prog 17 #[.agg #[.int .i64 (m : Int), .int .i64 (n : Int), .slice (some ⟨Lb, Lo, none⟩) N Lcap], _] w _
  go_enter Tryd.func17, Tryd.ntmps17
  obtain ⟨q0, q1, q2⟩ := PX.out.t.c3
  go_wp2_with fail
  refine C1.out.mono ?_
  rintro e w1 ⟨LV, rfl, hA, -, hB⟩
  replace PX := hidb (PX.out.below hB.out)
  have HL2 := hidb (HLa.out w1 LV hA)
  have HA := hidb hA
  clear q0 q1 q2 hA hB HLa C1
  obtain ⟨q0, q1, q2⟩ := PX.out.t.c3
  go_wp2_with fail
  refine HL2.out.mono ?_
  rintro e w2 ⟨v, rfl, base, vs, k1, k2, k3⟩
  replace PX := hidb (PX.out.below k3.out)
  replace HA := hidb (At.below k3.out HA.out)
  have HC2 := hidb (HCf.out w2 k1 PX.out.gr PX.out.u)
  clear q0 q1 q2 k1 k2 k3 HL2 HCf
  go_wp2_with fail
  refine HC2.out.mono ?_
  rintro e w3 ⟨rfl, hB⟩
  replace PX := hidb (PX.out.below hB.out)
  replace HA := hidb (At.below hB.out HA.out)
  clear hB HC2
  have u0 := PX.out.u.c1
  generalize hD : dpK m n l N = D at *
  go_wp2
  go_loopw [4, 5, 27] (fun a s t wr => ∃ (k : Nat), k ≤ K ∧ t = .int .i64 k ∧ a = .int .i64 (dpX m n l lk k) ∧ s = .int .i64 (dpT m n l lk k) ∧ Hid (At wr LV (ir D)) ∧ Hid (Gr w wr)) (fun _ _ t _ => K - (intOf t).toNat)
  case atStart => exact ⟨0, by omega, rfl, rfl, rfl, HA, hidb PX.out.gr⟩
  case round =>
    clear u0 PX HA
    obtain ⟨k, hk, rfl, rfl, rfl, HA, G⟩ := hrel
    by_cases h1 : k < K
    · have h1a : k < lk.length := by rw [← HK.out]; exact h1
      have h1' : (k : Int) < (K : Int) := by omega
      have e5 : IntKind.i64.wrap ((k : Int) + 1) = ((k + 1 : Nat) : Int) := by have := HMl.out; exact wrap_in (by omega) (by omega)
      have ix := HIx2.out k h1
      have cx := HIc.out k h1a wr G.out
      obtain ⟨c, hc, hcl⟩ := HIn.out _ (List.getElem_mem h1a)
      have hs1 := HXs.out k h1a
      have hs2 := HTs.out k h1a
      rw [hc] at cx hs1 hs2
      rw [Int.toNat_natCast] at hs1 hs2
      have ixd := iindex LV 0 N N c hcl
      rw [Nat.zero_add] at ixd
      have cd := (HA.out.get (j := c) (by rw [HDl.out]; exact hcl)).1
      rw [gl_get (by rw [HDl.out]; exact hcl)] at cd
      have hb2 := HBd.out (k + 1) h1
      obtain ⟨y, hy⟩ : ∃ y, y = gl D c := ⟨_, rfl⟩
      rw [← hy] at cd hs1 hs2
      obtain ⟨X, hX⟩ : ∃ X, X = dpX m n l lk k := ⟨_, rfl⟩
      obtain ⟨T, hT⟩ : ∃ X, X = dpT m n l lk k := ⟨_, rfl⟩
      obtain ⟨X', hX'⟩ : ∃ X, X = dpX m n l lk (k + 1) := ⟨_, rfl⟩
      obtain ⟨T', hT'⟩ : ∃ X, X = dpT m n l lk (k + 1) := ⟨_, rfl⟩
      rw [← hX, ← hX'] at hs1
      rw [← hT, ← hT'] at hs2
      rw [← hX', ← hT'] at hb2
      rw [← hX, ← hT]
      have HXX := hidb (show X' = dpX m n l lk (k + 1) ∧ T' = dpT m n l lk (k + 1) from ⟨hX', hT'⟩)
      have e6 : max X y = X' := hs1.symm
      have e7 : IntKind.i64.wrap (T + y) = T' := by rw [hs2]; have := HMl.out; exact wrap_in (by omega) (by omega)
      clear hc hy hX hT hX' hT' hs1 hs2 hb2 hcl h1a
      go_wp2
      go_roundw
      case rel => exact ⟨k + 1, by omega, rfl, by rw [← HXX.out.1], by rw [← HXX.out.2], HA, G⟩
      case measure => simp [intOf]; omega
    · have h1' : ¬ (k : Int) < (K : Int) := by omega
      have HE : Hid (k = K) := by show _ = _; omega
      clear h1
      go_wp2
      go_ret3
      exact ⟨by have h := HE.out; subst h; rfl, G.out⟩
end Go.Proofs.YtmjlaonlhabblaaDoor
namespace Go.Proofs.YtmjlaonlhabblaaDoor
open Go.RowKit

section
variable (m n : Nat) (l : List Int)
/-- The first ones of the lakes below i; the cells below j of a lake. -/
def fsL (i : Nat) : List Nat := (wts m n l i).filter (fun x => decide (lak m n l x = x))
def wnL (r j : Nat) : List Nat := (wts m n l j).filter (fun x => decide (lak m n l x = r))
theorem fsL_succ (i : Nat) : fsL m n l (i + 1) = fsL m n l i ++ if wetP m n l i ∧ lak m n l i = i then [i] else [] := by
  unfold fsL
  rw [wts_succ, List.filter_append]
  by_cases c : wetP m n l i
  · by_cases d : lak m n l i = i
    · simp [c, d]
    · simp [c, d]
  · simp [c]
theorem wnL_succ (r j : Nat) : wnL m n l r (j + 1) = wnL m n l r j ++ if wetP m n l j ∧ lak m n l j = r then [j] else [] := by
  unfold wnL
  rw [wts_succ, List.filter_append]
  by_cases c : wetP m n l j
  · by_cases d : lak m n l j = r
    · simp [c, d]
    · simp [c, d]
  · simp [c]
theorem fsL_pre (i : Nat) : ∀ d, fsL m n l i <+: fsL m n l (i + d)
  | 0 => List.prefix_refl _
  | d + 1 => by
    rw [← Nat.add_assoc, fsL_succ]
    exact (fsL_pre i d).trans (List.prefix_append _ _)
theorem lkL_eq : lkL m n l = (fsL m n l l.length).map fun r => on (wnL m n l r l.length) := by
  unfold lkL lsK rsK grK fsL wnL
  rw [List.take_length]
theorem fsL_len (i : Nat) : (fsL m n l i).length ≤ i := Nat.le_trans (List.length_filter_le _ _) (wts_len m n l i)
theorem wnL_len (r j : Nat) : (wnL m n l r j).length ≤ j := Nat.le_trans (List.length_filter_le _ _) (wts_len m n l j)
variable {m n l}
theorem wnL_in {r j : Nat} (hj : j ≤ l.length) : ∀ x ∈ on (wnL m n l r j), ∃ c : Nat, x = (c : Int) ∧ c < l.length := by
  intro x hx
  unfold on at hx
  rw [List.mem_map] at hx
  obtain ⟨c, hc, rfl⟩ := hx
  exact ⟨c, rfl, by have := (wts_mem.1 ((List.mem_filter.1 hc).1)).1; omega⟩
theorem fsL_get {i : Nat} (hi : i < l.length) (h : wetP m n l i ∧ lak m n l i = i) : (fsL m n l i).length < (lkL m n l).length ∧ lx (lkL m n l) (fsL m n l i).length = on (wnL m n l i l.length) ∧ on (wnL m n l i l.length) ∈ lkL m n l ∧ (lkL m n l).take ((fsL m n l i).length + 1) = (lkL m n l).take (fsL m n l i).length ++ [on (wnL m n l i l.length)] := by
  have hp := fsL_pre m n l (i + 1) (l.length - (i + 1))
  rw [show i + 1 + (l.length - (i + 1)) = l.length by omega, fsL_succ, if_pos h] at hp
  obtain ⟨t, ht⟩ := hp
  have e : lkL m n l = ((fsL m n l i).map fun r => on (wnL m n l r l.length)) ++ on (wnL m n l i l.length) :: (t.map fun r => on (wnL m n l r l.length)) := by
    rw [lkL_eq, ← ht]
    simp
  have h1 : (fsL m n l i).length < (lkL m n l).length := by rw [e]; simp
  have h2 : (lkL m n l)[(fsL m n l i).length]'h1 = on (wnL m n l i l.length) := by
    simp only [e]
    rw [List.getElem_append_right (by simp)]
    simp
  refine ⟨h1, by rw [← lx_get h1]; exact h2, by rw [← h2]; exact List.getElem_mem h1, ?_⟩
  rw [List.take_succ_eq_append_getElem h1, h2]
theorem fsL_end : (fsL m n l l.length).length = (lkL m n l).length := by rw [lkL_eq]; simp
/-- The reference's names. -/
theorem name_iff (ok : Ok l m n) {L : List Int} (h : LI m n l L) (hs : ∀ i k, i < l.length → k < l.length → Stb m L i k) {k : Nat} (hk : k < l.length) (r : Nat) : gl L k = (r : Int) ↔ wetP m n l k ∧ lak m n l k = r := by
  by_cases c : wetP m n l k
  · rw [lak_eq ok h hs c]
    constructor
    · intro e; exact ⟨c, by omega⟩
    · rintro ⟨-, e⟩; omega
  · rw [h.dry k hk c]
    constructor
    · intro e; omega
    · rintro ⟨e, -⟩; exact absurd e c
variable (m n l)
/-- The deepest and all of some cells. -/
def dX (lk : List Int) : Int := dpX m n l lk lk.length
def dT (lk : List Int) : Int := dpT m n l lk lk.length
theorem dX_nil : dX m n l [] = 0 := rfl
theorem dT_nil : dT m n l [] = 0 := rfl
theorem dX_snoc (lk : List Int) (c : Nat) : dX m n l (lk ++ [(c : Int)]) = max (dX m n l lk) (gl (dpK m n l l.length) c) := by unfold dX dpX; rw [List.take_length, List.take_length, List.foldl_append]; rfl
theorem dT_snoc (lk : List Int) (c : Nat) : dT m n l (lk ++ [(c : Int)]) = dT m n l lk + gl (dpK m n l l.length) c := by unfold dT dpT; rw [List.take_length, List.take_length, List.foldl_append]; rfl
theorem dXT_bd (ok : Ok l m n) {r j : Nat} (hj : j ≤ l.length) : (0 ≤ dX m n l (on (wnL m n l r j)) ∧ dX m n l (on (wnL m n l r j)) ≤ 2097152) ∧ 0 ≤ dT m n l (on (wnL m n l r j)) ∧ dT m n l (on (wnL m n l r j)) ≤ 2097152 * 20000 := by
  have h := dpXT_bd ok (wnL_in (r := r) hj) (on (wnL m n l r j)).length (Nat.le_refl _)
  have h2 : (on (wnL m n l r j)).length ≤ 20000 := by
    have := wnL_len m n l r j
    have := ok.len_le
    unfold on
    rw [List.length_map]
    omega
  unfold dX dT
  omega
end
end Go.Proofs.YtmjlaonlhabblaaDoor
