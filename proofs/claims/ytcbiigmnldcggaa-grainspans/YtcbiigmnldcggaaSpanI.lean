/-
  mercatorref1.JoinOf.
-/
import Derived.Test.YtcbiigmnldcggaaSpanV
import Derived.OwnWalk
import Derived.Laws.AppendOwn
namespace Go.Proofs.Ytcbiigmnldcggaa
open Go.RowKit FB
attribute [local go_sem] run_store_float

theorem undF : Try.prog.underlying 44 = some (.slice 22) := by kernel_rfl
theorem infoF : (Try.prog.info? 22).map (fun i => (i.zero, i.size, i.bytes)) = some (some (.float .f64 0), 1, 8) := by kernel_rfl
theorem own_shape {w : World} {base n : Nat} {v : Value} {l : List Nat} (h : w.ownsRow base 22 1 v n (l.map fun x => Value.float .f64 x)) (hn : n = l.length) (h0 : 0 < n) : ∃ g cap, v = .slice (some ⟨g, 0, none⟩) l.length cap ∧ base ≤ g ∧ g < w.heap.size ∧ Lies w g l := by
  obtain ⟨h1, h2⟩ := h
  rcases h2 with ⟨_, h2⟩ | ⟨g, cap, cur, hv, hg, hh, hc1, hc2, hc3, ht⟩
  · omega
  · refine ⟨g, cap, by rw [hv, hn], hg, ?_, ?_⟩
    · exact (Array.getElem?_eq_some_iff.1 hh).1
    · intro i hi
      have : cur[i]? = some (.float .f64 l[i]) := by
        have h3 : (cur.toList.take (n * 1))[i]? = some (.float .f64 l[i]) := by
          rw [ht, List.getElem?_map, List.getElem?_eq_getElem hi]; rfl
        rw [List.getElem?_take] at h3
        split at h3
        · simpa using h3
        · cases h3
      simp [World.cell?, hh, this]
theorem least_step {m x : Nat} {l : List Nat} (h : Least m l) (hx : NN x) : Least (if key x < key m then x else m) (l ++ [x]) := by
  obtain ⟨h1, h2, y, hy, hk⟩ := h
  split
  · rename_i c
    refine ⟨hx, ?_, x, by simp, rfl⟩
    intro z hz
    rcases List.mem_append.1 hz with hz | hz
    · have := h2 z hz; omega
    · rw [List.mem_singleton.1 hz]; omega
  · rename_i c
    refine ⟨h1, ?_, y, by simp [hy], hk⟩
    intro z hz
    rcases List.mem_append.1 hz with hz | hz
    · exact h2 z hz
    · rw [List.mem_singleton.1 hz]; omega
theorem most_step {m x : Nat} {l : List Nat} (h : Most m l) (hx : NN x) : Most (if key m < key x then x else m) (l ++ [x]) := by
  obtain ⟨h1, h2, y, hy, hk⟩ := h
  split
  · rename_i c
    refine ⟨hx, ?_, x, by simp, rfl⟩
    intro z hz
    rcases List.mem_append.1 hz with hz | hz
    · have := h2 z hz; omega
    · rw [List.mem_singleton.1 hz]; omega
  · rename_i c
    refine ⟨h1, ?_, y, by simp [hy], hk⟩
    intro z hz
    rcases List.mem_append.1 hz with hz | hz
    · exact h2 z hz
    · rw [List.mem_singleton.1 hz]; omega

theorem news2 {w : World} {ad : Addr} {x y : Value} {j : Nat} {u : Value} (hj : ([x, y] : List Value)[j]? = some u) (h : w.cell? (ad.add 0) = some x ∧ w.cell? (ad.add 1) = some y) : w.cell? (ad.add j) = some u := by
  rcases j with _ | _ | j
  · simp at hj; rw [← hj]; exact h.1
  · simp at hj; rw [← hj]; exact h.2
  · simp at hj
theorem news4 {w : World} {ad : Addr} {x y z t : Value} {j : Nat} {u : Value} (hj : ([x, y, z, t] : List Value)[j]? = some u) (h : w.cell? (ad.add 0) = some x ∧ w.cell? (ad.add 1) = some y ∧ w.cell? (ad.add 2) = some z ∧ w.cell? (ad.add 3) = some t) : w.cell? (ad.add j) = some u := by
  rcases j with _ | _ | _ | _ | j
  · simp at hj; rw [← hj]; exact h.1
  · simp at hj; rw [← hj]; exact h.2.1
  · simp at hj; rw [← hj]; exact h.2.2.1
  · simp at hj; rw [← hj]; exact h.2.2.2
  · simp at hj
set_option maxRecDepth 4000 in
set_option maxHeartbeats 4000000 in
theorem joinOf_add (a b c d p q : Nat) (ha : W64 a) (hb : W64 b) (hc : W64 c) (hd : W64 d) (h1 : spB a b = true) (h2 : spB c d = true) (hp : Ieee.double.add a c = some p) (hq : Ieee.double.add b d = some q) (np : NN p) (nq : NN q) (w : World) : Calls Try.prog 7 #[.agg #[.float .f64 a, .float .f64 b], .agg #[.float .f64 c, .float .f64 d], .int .u8 43] w fun e w' => ∃ u v ok, e = .returned (.tuple #[.agg #[.float .f64 u, .float .f64 v], .bool ok]) ∧ Out (wid (mnL [p, q]) (mxL [p, q])) u v ok ∧ Below w.heap.size w w' := by
  have e1 := fun w => hadd hp w
  have e2 := fun w => hadd hq w
  have HN : Hid (∀ x ∈ [p, q], NN x) := by unfold Hid; simp [np, nq]
  have HS : Hid (mnL [p, q] ≤ mxL [p, q]) := mn_le_mx (by simp)
  clear hp np hq nq
  obtain ⟨i0, hi, hz0, hz1, hz2⟩ := info_parts infoF
  go_enter Try.func7, Try.ntmps7
  go_wp2_with fail
  refine (isSpan_any _ _ (by assumption) (by assumption) _).mono ?_
  rintro e w1 ⟨rfl, hB⟩
  obtain ⟨hc1, hf1⟩ := bcell hB
  obtain ⟨hz, ha1, hb1⟩ : w.heap.size + 1 + 1 < w1.heap.size ∧ w.heap.size + 1 < w1.heap.size ∧ w.heap.size < w1.heap.size := by have := hB.size; simp at this; omega
  go_wp2_with fail
  refine (isSpan_any _ _ (by assumption) (by assumption) _).mono ?_
  rintro e w2 ⟨rfl, hB2⟩
  obtain ⟨hc2, hf2⟩ := bcell hB2
  obtain ⟨hzz, ha2, hb2⟩ : w.heap.size + 1 + 1 < w2.heap.size ∧ w.heap.size + 1 < w2.heap.size ∧ w.heap.size < w2.heap.size := by have := hB2.size; omega
  go_wp2_with (at_builtin; refine wpList_append_own _ rfl _ _ 44 rfl w.heap.size 22 i0 (.float .f64 0) 1 8 undF hi hz0 hz1 hz2 rfl (by decide) _ _ _ rfl (World.ownsRow_nil _ _ _ _) ⟨w2.heap.size, 0, none⟩ 2 2 [.float .f64 p, .float .f64 q] rfl rfl ?c1 ?c2 ?c3 ?c4 ?c5 ?_)
  case c1 =>
    intro j u hj
    exact news2 hj (by simp [go_sem, Addr.add])
  case c2 => intro u hu; simp at hu; rcases hu with rfl | rfl <;> rfl
  case c3 => decide
  case c4 => decide
  case c5 => simp; omega
  intro v' w3 hown hgrow _
  have hB3 : Below w.heap.size w w3 := ((bt (bt ((((Below.refl _ _).alloc (Nat.le_refl _) _).alloc (by simp) _).alloc (by simp; omega) _) hB) hB2).alloc (by omega) _).grown hgrow (by simp; omega) (by intro k hk; cases hk)
  obtain ⟨d0, d1⟩ : w3.cell? ⟨w.heap.size + 1 + 1, 0, none⟩ = some (.float .f64 0) ∧ w3.cell? ⟨w.heap.size + 1 + 1, 1, none⟩ = some (.float .f64 0) := ⟨hgrow.cell (by simp [go_sem, hc2, hc1, hz, hzz]) (by intro hk; cases hk), hgrow.cell (by simp [go_sem, hc2, hc1, hz, hzz]) (by intro hk; cases hk)⟩
  obtain ⟨f0, f1⟩ : w3.frozen? ⟨w.heap.size + 1 + 1, 0, none⟩ = false ∧ w3.frozen? ⟨w.heap.size + 1 + 1, 1, none⟩ = false := by
    rw [World.frozen?_of_block (a := ⟨w.heap.size + 1 + 1, 0, none⟩) (hgrow.block _ (by simp; omega) (by intro hk; cases hk)), World.frozen?_of_block (a := ⟨w.heap.size + 1 + 1, 1, none⟩) (hgrow.block _ (by simp; omega) (by intro hk; cases hk))]
    simp [go_sem, hf2, hf1, hz, hzz]
  obtain ⟨g, cap, rfl, hg1, hg2, hlies⟩ := own_shape (l := [p, q]) hown rfl (by decide)
  have HL := hid hlies
  have hsz : w.heap.size + 1 + 1 < w3.heap.size := by have := hgrow.size; simp at this; omega
  clear hown hgrow hc1 hf1 hc2 hf2 hlies hB hB2 hzz ha2 hb2 hz ha1 hb1
  generalize hgen : [p, q] = l at *
  have hlen : l.length = 2 := by rw [← hgen]; rfl
  have hl1 : 0 < l.length := by omega
  have hl0 := HL.out 0 hl1
  have HE := hid hgen
  clear hgen
  go_wp2
  go_loop [11, 12, 13] (fun s t i => ∃ (m n k : Nat), 1 ≤ k ∧ k ≤ l.length ∧ Hid (Least m (l.take k)) ∧ Hid (Most n (l.take k)) ∧ s = .float .f64 m ∧ t = .float .f64 n ∧ i = .int .i64 k) (fun _ _ i => l.length - (intOf i).toNat)
  case atStart => exact ⟨l[0], l[0], 1, by decide, hl1, by unfold Hid; rw [take_one hl1]; exact least_one (HN.out _ (by simp)), by unfold Hid; rw [take_one hl1]; exact most_one (HN.out _ (by simp)), rfl, rfl, rfl⟩
  case round =>
    obtain ⟨m, n, k, hk1, hk2, HM, HX, rfl, rfl, rfl⟩ := hrel
    by_cases hlt : k < l.length
    · have hk := HL.out k hlt
      have hx := HN.out l[k] (by simp)
      have HS1 := hid (least_step HM.out hx)
      have HS2 := hid (most_step HX.out hx)
      have HT : Hid (l.take (k + 1) = l.take k ++ [l[k]]) := List.take_succ_eq_append_getElem hlt
      have t1 := k_lss hx HM.out.1
      have t2 := k_gtr hx HX.out.1
      generalize l[k] = x at *
      clear hx
      by_cases c1 : key x < key m <;> by_cases c2 : key n < key x
      · rw [decide_eq_true c1] at t1
        rw [decide_eq_true c2] at t2
        rw [if_pos c1] at HS1
        rw [if_pos c2] at HS2
        clear c1 c2
        go_wp2
        go_round
        case rel => exact ⟨x, x, k + 1, by omega, by omega, by rw [HT.out]; exact HS1, by rw [HT.out]; exact HS2, rfl, rfl, by go_num⟩
        case measure => simp [intOf]; omega
      · rw [decide_eq_true c1] at t1
        rw [decide_eq_false c2] at t2
        rw [if_pos c1] at HS1
        rw [if_neg c2] at HS2
        clear c1 c2
        go_wp2
        go_round
        case rel => exact ⟨x, n, k + 1, by omega, by omega, by rw [HT.out]; exact HS1, by rw [HT.out]; exact HS2, rfl, rfl, by go_num⟩
        case measure => simp [intOf]; omega
      · rw [decide_eq_false c1] at t1
        rw [decide_eq_true c2] at t2
        rw [if_neg c1] at HS1
        rw [if_pos c2] at HS2
        clear c1 c2
        go_wp2
        go_round
        case rel => exact ⟨m, x, k + 1, by omega, by omega, by rw [HT.out]; exact HS1, by rw [HT.out]; exact HS2, rfl, rfl, by go_num⟩
        case measure => simp [intOf]; omega
      · rw [decide_eq_false c1] at t1
        rw [decide_eq_false c2] at t2
        rw [if_neg c1] at HS1
        rw [if_neg c2] at HS2
        clear c1 c2
        go_wp2
        go_round
        case rel => exact ⟨m, n, k + 1, by omega, by omega, by rw [HT.out]; exact HS1, by rw [HT.out]; exact HS2, rfl, rfl, by go_num⟩
        case measure => simp [intOf]; omega
    · have he : k = l.length := by omega
      have HF : Hid (Least m l) := by have := HM.out; rw [he, List.take_length] at this; exact this
      have HG : Hid (Most n l) := by have := HX.out; rw [he, List.take_length] at this; exact this
      clear he HM HX
      go_wp2_with fail
      refine (wider_any _ _ HF.out.1 HG.out.1 (.inl (by rw [least_key HF.out, most_key HG.out]; exact HS.out)) _).mono ?_
      rintro e w4 ⟨u, v, ok, rfl, ho, hB4⟩
      rw [least_key HF.out, most_key HG.out] at ho
      have HO := hid ho
      obtain ⟨hc4, hf4⟩ := bcell hB4
      clear ho
      go_wp2
      exact bodyPost_ret (v := .tuple #[.agg #[.float .f64 u, .float .f64 v], .bool ok]) (by simp [results, Try.results7, go_sem, hc4, hsz, d0, d1]) rfl ⟨u, v, ok, rfl, by rw [HE.out]; exact HO.out, ((bt hB3 hB4).setCell (by simp; omega) _).setCell (by simp; omega) _⟩
set_option maxRecDepth 4000 in
set_option maxHeartbeats 4000000 in
theorem joinOf_sub (a b c d p q : Nat) (ha : W64 a) (hb : W64 b) (hc : W64 c) (hd : W64 d) (h1 : spB a b = true) (h2 : spB c d = true) (hp : Ieee.double.sub a d = some p) (hq : Ieee.double.sub b c = some q) (np : NN p) (nq : NN q) (w : World) : Calls Try.prog 7 #[.agg #[.float .f64 a, .float .f64 b], .agg #[.float .f64 c, .float .f64 d], .int .u8 45] w fun e w' => ∃ u v ok, e = .returned (.tuple #[.agg #[.float .f64 u, .float .f64 v], .bool ok]) ∧ Out (wid (mnL [p, q]) (mxL [p, q])) u v ok ∧ Below w.heap.size w w' := by
  have e1 := fun w => hsub hp w
  have e2 := fun w => hsub hq w
  have HN : Hid (∀ x ∈ [p, q], NN x) := by unfold Hid; simp [np, nq]
  have HS : Hid (mnL [p, q] ≤ mxL [p, q]) := mn_le_mx (by simp)
  clear hp np hq nq
  obtain ⟨i0, hi, hz0, hz1, hz2⟩ := info_parts infoF
  go_enter Try.func7, Try.ntmps7
  go_wp2_with fail
  refine (isSpan_any _ _ (by assumption) (by assumption) _).mono ?_
  rintro e w1 ⟨rfl, hB⟩
  obtain ⟨hc1, hf1⟩ := bcell hB
  obtain ⟨hz, ha1, hb1⟩ : w.heap.size + 1 + 1 < w1.heap.size ∧ w.heap.size + 1 < w1.heap.size ∧ w.heap.size < w1.heap.size := by have := hB.size; simp at this; omega
  go_wp2_with fail
  refine (isSpan_any _ _ (by assumption) (by assumption) _).mono ?_
  rintro e w2 ⟨rfl, hB2⟩
  obtain ⟨hc2, hf2⟩ := bcell hB2
  obtain ⟨hzz, ha2, hb2⟩ : w.heap.size + 1 + 1 < w2.heap.size ∧ w.heap.size + 1 < w2.heap.size ∧ w.heap.size < w2.heap.size := by have := hB2.size; omega
  go_wp2_with (at_builtin; refine wpList_append_own _ rfl _ _ 44 rfl w.heap.size 22 i0 (.float .f64 0) 1 8 undF hi hz0 hz1 hz2 rfl (by decide) _ _ _ rfl (World.ownsRow_nil _ _ _ _) ⟨w2.heap.size, 0, none⟩ 2 2 [.float .f64 p, .float .f64 q] rfl rfl ?c1 ?c2 ?c3 ?c4 ?c5 ?_)
  case c1 =>
    intro j u hj
    exact news2 hj (by simp [go_sem, Addr.add])
  case c2 => intro u hu; simp at hu; rcases hu with rfl | rfl <;> rfl
  case c3 => decide
  case c4 => decide
  case c5 => simp; omega
  intro v' w3 hown hgrow _
  have hB3 : Below w.heap.size w w3 := ((bt (bt ((((Below.refl _ _).alloc (Nat.le_refl _) _).alloc (by simp) _).alloc (by simp; omega) _) hB) hB2).alloc (by omega) _).grown hgrow (by simp; omega) (by intro k hk; cases hk)
  obtain ⟨d0, d1⟩ : w3.cell? ⟨w.heap.size + 1 + 1, 0, none⟩ = some (.float .f64 0) ∧ w3.cell? ⟨w.heap.size + 1 + 1, 1, none⟩ = some (.float .f64 0) := ⟨hgrow.cell (by simp [go_sem, hc2, hc1, hz, hzz]) (by intro hk; cases hk), hgrow.cell (by simp [go_sem, hc2, hc1, hz, hzz]) (by intro hk; cases hk)⟩
  obtain ⟨f0, f1⟩ : w3.frozen? ⟨w.heap.size + 1 + 1, 0, none⟩ = false ∧ w3.frozen? ⟨w.heap.size + 1 + 1, 1, none⟩ = false := by
    rw [World.frozen?_of_block (a := ⟨w.heap.size + 1 + 1, 0, none⟩) (hgrow.block _ (by simp; omega) (by intro hk; cases hk)), World.frozen?_of_block (a := ⟨w.heap.size + 1 + 1, 1, none⟩) (hgrow.block _ (by simp; omega) (by intro hk; cases hk))]
    simp [go_sem, hf2, hf1, hz, hzz]
  obtain ⟨g, cap, rfl, hg1, hg2, hlies⟩ := own_shape (l := [p, q]) hown rfl (by decide)
  have HL := hid hlies
  have hsz : w.heap.size + 1 + 1 < w3.heap.size := by have := hgrow.size; simp at this; omega
  clear hown hgrow hc1 hf1 hc2 hf2 hlies hB hB2 hzz ha2 hb2 hz ha1 hb1
  generalize hgen : [p, q] = l at *
  have hlen : l.length = 2 := by rw [← hgen]; rfl
  have hl1 : 0 < l.length := by omega
  have hl0 := HL.out 0 hl1
  have HE := hid hgen
  clear hgen
  go_wp2
  go_loop [11, 12, 13] (fun s t i => ∃ (m n k : Nat), 1 ≤ k ∧ k ≤ l.length ∧ Hid (Least m (l.take k)) ∧ Hid (Most n (l.take k)) ∧ s = .float .f64 m ∧ t = .float .f64 n ∧ i = .int .i64 k) (fun _ _ i => l.length - (intOf i).toNat)
  case atStart => exact ⟨l[0], l[0], 1, by decide, hl1, by unfold Hid; rw [take_one hl1]; exact least_one (HN.out _ (by simp)), by unfold Hid; rw [take_one hl1]; exact most_one (HN.out _ (by simp)), rfl, rfl, rfl⟩
  case round =>
    obtain ⟨m, n, k, hk1, hk2, HM, HX, rfl, rfl, rfl⟩ := hrel
    by_cases hlt : k < l.length
    · have hk := HL.out k hlt
      have hx := HN.out l[k] (by simp)
      have HS1 := hid (least_step HM.out hx)
      have HS2 := hid (most_step HX.out hx)
      have HT : Hid (l.take (k + 1) = l.take k ++ [l[k]]) := List.take_succ_eq_append_getElem hlt
      have t1 := k_lss hx HM.out.1
      have t2 := k_gtr hx HX.out.1
      generalize l[k] = x at *
      clear hx
      by_cases c1 : key x < key m <;> by_cases c2 : key n < key x
      · rw [decide_eq_true c1] at t1
        rw [decide_eq_true c2] at t2
        rw [if_pos c1] at HS1
        rw [if_pos c2] at HS2
        clear c1 c2
        go_wp2
        go_round
        case rel => exact ⟨x, x, k + 1, by omega, by omega, by rw [HT.out]; exact HS1, by rw [HT.out]; exact HS2, rfl, rfl, by go_num⟩
        case measure => simp [intOf]; omega
      · rw [decide_eq_true c1] at t1
        rw [decide_eq_false c2] at t2
        rw [if_pos c1] at HS1
        rw [if_neg c2] at HS2
        clear c1 c2
        go_wp2
        go_round
        case rel => exact ⟨x, n, k + 1, by omega, by omega, by rw [HT.out]; exact HS1, by rw [HT.out]; exact HS2, rfl, rfl, by go_num⟩
        case measure => simp [intOf]; omega
      · rw [decide_eq_false c1] at t1
        rw [decide_eq_true c2] at t2
        rw [if_neg c1] at HS1
        rw [if_pos c2] at HS2
        clear c1 c2
        go_wp2
        go_round
        case rel => exact ⟨m, x, k + 1, by omega, by omega, by rw [HT.out]; exact HS1, by rw [HT.out]; exact HS2, rfl, rfl, by go_num⟩
        case measure => simp [intOf]; omega
      · rw [decide_eq_false c1] at t1
        rw [decide_eq_false c2] at t2
        rw [if_neg c1] at HS1
        rw [if_neg c2] at HS2
        clear c1 c2
        go_wp2
        go_round
        case rel => exact ⟨m, n, k + 1, by omega, by omega, by rw [HT.out]; exact HS1, by rw [HT.out]; exact HS2, rfl, rfl, by go_num⟩
        case measure => simp [intOf]; omega
    · have he : k = l.length := by omega
      have HF : Hid (Least m l) := by have := HM.out; rw [he, List.take_length] at this; exact this
      have HG : Hid (Most n l) := by have := HX.out; rw [he, List.take_length] at this; exact this
      clear he HM HX
      go_wp2_with fail
      refine (wider_any _ _ HF.out.1 HG.out.1 (.inl (by rw [least_key HF.out, most_key HG.out]; exact HS.out)) _).mono ?_
      rintro e w4 ⟨u, v, ok, rfl, ho, hB4⟩
      rw [least_key HF.out, most_key HG.out] at ho
      have HO := hid ho
      obtain ⟨hc4, hf4⟩ := bcell hB4
      clear ho
      go_wp2
      exact bodyPost_ret (v := .tuple #[.agg #[.float .f64 u, .float .f64 v], .bool ok]) (by simp [results, Try.results7, go_sem, hc4, hsz, d0, d1]) rfl ⟨u, v, ok, rfl, by rw [HE.out]; exact HO.out, ((bt hB3 hB4).setCell (by simp; omega) _).setCell (by simp; omega) _⟩
end Go.Proofs.Ytcbiigmnldcggaa
