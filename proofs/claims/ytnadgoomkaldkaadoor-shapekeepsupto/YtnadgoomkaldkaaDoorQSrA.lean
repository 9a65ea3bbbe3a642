/-
  mercatorref5: within, OnPiece, signOf, with, Common, AreaOf.
-/
import Derived.Test.YtnadgoomkaldkaaDoorQTk
import Derived.Test.YtnadgoomkaldkaaDoorQJ3
namespace Go.Proofs.YtnadgoomkaldkaaDoor
open Go.RowKit
attribute [local go_sem ↓] Go.wp_at_zero Go.wp_at_succ

theorem rwithin_any (n a b : Int) (w : World) : Calls Tryd.prog 74 #[.int .i64 n, .int .i64 a, .int .i64 b] w fun e w' => e = .returned (.bool (decide (min a b ≤ n ∧ n ≤ max a b))) ∧ w' = w := by
  generalize hr : decide (min a b ≤ n ∧ n ≤ max a b) = r
  have ht : min a b ≤ n ∧ n ≤ max a b → r = true := fun h => by rw [← hr]; exact decide_eq_true h
  have hf : ¬ (min a b ≤ n ∧ n ≤ max a b) → r = false := fun h => by rw [← hr]; exact decide_eq_false h
  clear hr
  by_cases c : b < a
  · by_cases d1 : b ≤ n
    · by_cases d2 : n ≤ a
      · obtain rfl := ht (by omega)
        clear ht hf
        go_enter Tryd.func74, Tryd.ntmps74
        go_wp2
        go_ret
        exact ⟨rfl, rfl⟩
      · obtain rfl := hf (by omega)
        clear ht hf
        go_enter Tryd.func74, Tryd.ntmps74
        go_wp2
        go_ret
        exact ⟨rfl, rfl⟩
    · obtain rfl := hf (by omega)
      clear ht hf
      go_enter Tryd.func74, Tryd.ntmps74
      go_wp2
      go_ret
      exact ⟨rfl, rfl⟩
  · by_cases d1 : a ≤ n
    · by_cases d2 : n ≤ b
      · obtain rfl := ht (by omega)
        clear ht hf
        go_enter Tryd.func74, Tryd.ntmps74
        go_wp2
        go_ret
        exact ⟨rfl, rfl⟩
      · obtain rfl := hf (by omega)
        clear ht hf
        go_enter Tryd.func74, Tryd.ntmps74
        go_wp2
        go_ret
        exact ⟨rfl, rfl⟩
    · obtain rfl := hf (by omega)
      clear ht hf
      go_enter Tryd.func74, Tryd.ntmps74
      go_wp2
      go_ret
      exact ⟨rfl, rfl⟩
set_option maxRecDepth 4000 in
set_option maxHeartbeats 2000000 in
theorem onPiece_any {p q r : Sp} (h1 : okS p) (h2 : okS q) (h3 : okS r) (w : World) : Calls Tryd.prog 52 #[sv p, sv q, sv r] w fun e w' => e = .returned (.bool (decide (hsP (p, q) r))) ∧ Gr w w' := by
  have HT := hidb (fun w => turnOf_any h1 h2 h3 w)
  generalize hr : decide (hsP (p, q) r) = res
  have ht : tn p q r = 0 → (decide (min p.1 q.1 ≤ r.1 ∧ r.1 ≤ max p.1 q.1) && decide (min p.2 q.2 ≤ r.2 ∧ r.2 ≤ max p.2 q.2)) = res := fun h => by
    rw [← hr, ← Bool.decide_and]
    refine decide_eq_decide.2 ⟨fun hx => ⟨h, ?_⟩, fun hx => ?_⟩
    · unfold nrP; dsimp only; omega
    · have := hx.2; unfold nrP at this; dsimp only at this; omega
  have hf : ¬ tn p q r = 0 → res = false := fun h => by rw [← hr]; exact decide_eq_false (fun k => h k.1)
  clear hr h1 h2 h3
  have HX := hidb (fun w => rwithin_any r.1 p.1 q.1 w)
  have HY := hidb (fun w => rwithin_any r.2 p.2 q.2 w)
  generalize tn p q r = t at *
  generalize decide (min p.1 q.1 ≤ r.1 ∧ r.1 ≤ max p.1 q.1) = bx at *
  generalize decide (min p.2 q.2 ≤ r.2 ∧ r.2 ≤ max p.2 q.2) = bY at *
  obtain ⟨p1, p2⟩ := p
  obtain ⟨q1, q2⟩ := q
  obtain ⟨r1, r2⟩ := r
  have FA := ((At.new2 w (.int .i64 p1) (.int .i64 p2) 52).alloc (.cells #[.int .i64 q1, .int .i64 q2] 52)).alloc (.cells #[.int .i64 r1, .int .i64 r2] 52)
  have FB := (At.nx2 (W := w) (.cells #[.int .i64 p1, .int .i64 p2] 52) (.int .i64 q1) (.int .i64 q2) 52).alloc (.cells #[.int .i64 r1, .int .i64 r2] 52)
  have FC := At.ny2 (W := w) (.cells #[.int .i64 p1, .int .i64 p2] 52) (.cells #[.int .i64 q1, .int .i64 q2] 52) (.int .i64 r1) (.int .i64 r2) 52
  have HG := hidb ((((Gr.refl w).alloc (.cells #[.int .i64 p1, .int .i64 p2] 52)).alloc (.cells #[.int .i64 q1, .int .i64 q2] 52)).alloc (.cells #[.int .i64 r1, .int .i64 r2] 52))
  go_enter Tryd.func52, Tryd.ntmps52
  go_upto_region 1 with fail
  generalize ((w.alloc (.cells #[.int .i64 p1, .int .i64 p2] 52)).alloc (.cells #[.int .i64 q1, .int .i64 q2] 52)).alloc (.cells #[.int .i64 r1, .int .i64 r2] 52) = W1 at *
  obtain ⟨a0, a1⟩ := FA.c2
  obtain ⟨b0, b1⟩ := FB.c2
  obtain ⟨c0, c1⟩ := FC.c2
  go_wp2_with fail
  refine (HT.out _).mono ?_
  rintro e w2 ⟨rfl, hB⟩
  replace FA := At.below hB.out FA
  replace FB := At.below hB.out FB
  replace FC := At.below hB.out FC
  replace HG := hidb (Gr.step HG.out hB.out)
  clear a0 a1 b0 b1 c0 c1 hB
  obtain ⟨a0, a1⟩ := FA.c2
  obtain ⟨b0, b1⟩ := FB.c2
  obtain ⟨c0, c1⟩ := FC.c2
  by_cases c : t = 0
  · obtain rfl := ht c
    subst c
    clear ht hf
    go_wp2_with fail
    refine (HX.out _).mono ?_
    rintro e w3 ⟨rfl, rfl⟩
    go_wp2_with fail
    refine (HY.out _).mono ?_
    rintro e w4 ⟨rfl, rfl⟩
    cases bx
    all_goals
      go_wp2
      go_ret
      exact ⟨rfl, HG.out⟩
  · obtain rfl := hf c
    clear ht hf
    go_wp2
    go_ret
    exact ⟨rfl, HG.out⟩
/-- A number's sign. -/
def sg (x : Int) : Int := if 0 < x then 1 else if x < 0 then -1 else 0
theorem signOf_any (x : Int) (w : World) : Calls Tryd.prog 54 #[.int .i64 x] w fun e w' => e = .returned (.int .i64 (sg x)) ∧ w' = w := by
  unfold sg
  by_cases c : 0 < x
  · rw [if_pos c]
    go_enter Tryd.func54, Tryd.ntmps54
    go_wp2
    go_ret
    exact ⟨rfl, rfl⟩
  · rw [if_neg c]
    by_cases d : x < 0
    · rw [if_pos d]
      go_enter Tryd.func54, Tryd.ntmps54
      go_wp2
      go_ret
      exact ⟨rfl, rfl⟩
    · rw [if_neg d]
      go_enter Tryd.func54, Tryd.ntmps54
      go_wp2
      go_ret
      exact ⟨rfl, rfl⟩
theorem sg_one (x : Int) : sg x = 1 ∨ sg x = 0 ∨ sg x = -1 := by unfold sg; split; exact .inl rfl; split; exact .inr (.inr rfl); exact .inr (.inl rfl)
/-- A point put among others, once. -/
def wthL (l : List Sp) (p : Sp) : List Sp := if p ∈ l then l else l ++ [p]
theorem wth_len (l : List Sp) (p : Sp) : (wthL l p).length ≤ l.length + 1 := by unfold wthL; split <;> simp
set_option maxRecDepth 4000 in
set_option maxHeartbeats 4000000 in
theorem with_any {base n : Nat} {v : Value} {l : List Sp} (p : Sp) (hn : l.length = n) (ll : n ≤ 9000) (w : World) (h : w.ownsRow base 52 2 v n (sr l)) (hb : base ≤ w.heap.size) : Calls Tryd.prog 53 #[v, sv p] w fun e w' => ∃ ad cap, e = .returned (.slice ad (wthL l p).length cap) ∧ w'.ownsRow base 52 2 (.slice ad (wthL l p).length cap) (wthL l p).length (sr (wthL l p)) ∧ Below base w w' := by
  obtain ⟨ad, b, cap, hv, hS⟩ := own_ssl h hn
  rw [hn] at hv
  subst hv
  generalize hL : wthL l p = L
  have HIn : Hid (∀ i, i < n → sx l i = p → L = l) := fun i hi e => by
    rw [← hL]; unfold wthL; rw [if_pos]
    rw [← e, ← sx_get (by omega)]; exact List.getElem_mem _
  have HOut : Hid ((∀ i, i < n → ¬ sx l i = p) → L = l ++ [p]) := fun hh => by
    rw [← hL]; unfold wthL; rw [if_neg]
    intro hm
    obtain ⟨i, hi, e⟩ := List.getElem_of_mem hm
    rw [sx_get hi] at e
    exact hh i (by omega) e
  clear hL
  have HG0 := (Gr.refl w).alloc (.cells #[.int .i64 p.1, .int .i64 p.2] 52)
  have FP := At.new2 w (.int .i64 p.1) (.int .i64 p.2) 52
  have HX := hidb (fun k (hk : k < n) => hS.ix k (by rw [hn]; exact hk))
  rw [hn] at HX
  have HR := hidb hS
  have HO := hidb h
  have HN := hidb hn
  have HBs := hidb hb
  have HGG := hidb HG0
  have HFP := hidb FP
  clear h hS hb hn HG0 FP
  go_enter Tryd.func53, Tryd.ntmps53
  go_upto_region 1 with fail
  obtain ⟨p1, p2⟩ := p
  generalize w.alloc (.cells #[.int .i64 (p1, p2).1, .int .i64 (p1, p2).2] 52) = W1 at *
  go_wp2
  go_loopw [5] (fun t wr => ∃ (i : Nat), i ≤ n ∧ t = .int .i64 (i : Int) ∧ Hid (∀ j, j < i → ¬ sx l j = (p1, p2)) ∧ Hid (Gr W1 wr)) (fun t _ => n - (intOf t).toNat)
  case atStart => exact ⟨0, Nat.zero_le _, rfl, (by intro j hj; omega), Gr.refl _⟩
  case round =>
    obtain ⟨i, hi, rfl, HI, HG⟩ := hrel
    have HC : Gr w wr := Gr.step HGG.out HG.out
    by_cases h1 : ¬ i < n
    · have h1' : ¬ (i : Int) < (n : Int) := by omega
      obtain rfl : i = n := by omega
      obtain rfl := HOut.out HI.out
      have FP := At.below HG.out.out HFP.out
      obtain ⟨q0, q1⟩ := FP.c2
      have HO2 := hidb (own_kp HO.out HC.out)
      have HCC := hidb HC
      clear h1 HC
      go_wp2_with (at_builtin; refine wpList_s2 _ base (.slice ad i cap) l (p1, p2) i wr.heap.size _ _ rfl rfl rfl rfl HN.out (by omega) (HO2.out.alloc _) (At.new2 _ _ _ _) (by have := HBs.out; have := HCC.out.out.size; simp; omega) ?_; intro g cap3 w5 hown hgrow hat)
      go_ret
      refine ⟨some ⟨g, 0, none⟩, cap3, by simp [HN.out], by rw [HN.out]; exact hown.out, ?_⟩
      exact Below.grown (((HCC.out.alloc _).out).mono HBs.out) hgrow.out (by have := HBs.out; have := HCC.out.out.size; simp; omega) (fun k hk => (HO2.out.lt k hk).1)
    · have h1' : (i : Int) < (n : Int) := by omega
      have hin : i < n := by omega
      have ix := HX.out i hin
      have e1 : IntKind.i64.wrap ((i : Int) + 1) = ((i + 1 : Nat) : Int) := by rw [show (i : Int) + 1 = ((i + 1 : Nat) : Int) by omega]; exact wr_in (by omega) (by omega)
      have HQ := hidb (fun W (hW : Gr w W ∧ Gr W1 W) => And.intro (by have := ((HR.out.gr hW.1).row i (by rw [HN.out]; exact hin)).1; simpa only [Nat.zero_add] using this) (At.below hW.2.out HFP.out).c2)
      have heq := sp_eq (sx l i) (p1, p2)
      have HInI := hidb (HIn.out i hin)
      have HIN := hidb hin
      have HE1 := hidb e1
      replace HC : Gr w wr ∧ Gr W1 wr := ⟨HC, HG.out⟩
      generalize hx : sx l i = x at *
      have HXE := hidb hx
      clear h1 hin e1 hx
      by_cases d : x = (p1, p2)
      · rw [decide_eq_true d] at heq
        obtain rfl := HInI.out d
        clear d HInI
        go_upto_region 4 with fail
        refine wp_region_held_drew (S := (fun w' => (w'.cell? ⟨b, i * 2, none⟩ = some (.int .i64 x.1) ∧ w'.cell? ⟨b, i * 2 + 1, none⟩ = some (.int .i64 x.2)) ∧ w'.cell? ⟨w.heap.size, 0, none⟩ = some (.int .i64 p1) ∧ w'.cell? ⟨w.heap.size, 1, none⟩ = some (.int .i64 p2))) (by kernel_rfl) ?_ (fun hHeld => ?_)
        · (try dsimp only); (with_reducible first | exact HQ.out _ HC | exact HQ.out _ ⟨HC.1.drew, HC.2.drew⟩)
        refine wt (i := 0) (v := ?vt1q0x2) rfl ?ht1q0x2 ?rt1q0x2
        case ht1q0x2 => (intro w hSw; (try dsimp only at hSw); go_simp; try with_reducible rfl)
        (try simp only [Act.put, lq1, lq2, lq4, lq5, lq6])
        refine wt (i := 1) (v := ?vt1q1x5) rfl ?ht1q1x5 ?rt1q1x5
        case ht1q1x5 => (intro w hSw; (try dsimp only at hSw); go_simp; try with_reducible rfl)
        (try simp only [Act.put, lq1, lq2, lq3, lq4, lq5, lq6])
        refine wt (i := 2) (v := ?vt1q2x8) rfl ?ht1q2x8 ?rt1q2x8
        case ht1q2x8 => (intro w hSw; (try dsimp only at hSw); go_simp; try with_reducible rfl)
        (try simp only [Act.put, lq1, lq2, lq3, lq4, lq5, lq6])
        refine wt (i := 3) (v := ?vt1q3x11) rfl ?ht1q3x11 ?rt1q3x11
        case ht1q3x11 => (intro w hSw; (try dsimp only at hSw); go_simp; try with_reducible rfl)
        (try simp only [Act.put, lq1, lq2, lq3, lq4, lq5, lq6])
        refine wt (i := 4) (v := ?vt1q4x14) rfl ?ht1q4x14 ?rt1q4x14
        case ht1q4x14 => (intro w hSw; (try dsimp only at hSw); go_simp; try with_reducible rfl)
        (try simp only [Act.put, lq1, lq2, lq3, lq4, lq5, lq6])
        refine wt (i := 5) (v := ?vt1q5x17) rfl ?ht1q5x17 ?rt1q5x17
        case ht1q5x17 => (intro w hSw; (try dsimp only at hSw); go_simp; try with_reducible rfl)
        (try simp only [Act.put, lq1, lq2, lq3, lq4, lq5, lq6])
        refine wpAnyH_done (by kernel_rfl) ?_ _
        go_wp2
        go_ret
        refine ⟨_, _, by rw [HN.out]; rfl, ?_, ?_⟩
        · rw [HN.out]; exact own_kp HO.out HC.1.drew.out
        · exact HC.1.drew.out.mono HBs.out
      · rw [decide_eq_false d] at heq
        have HI2 : Hid (∀ j, j < i + 1 → ¬ sx l j = (p1, p2)) := fun j hj => by
          rcases Nat.lt_succ_iff_lt_or_eq.1 hj with c | c
          · exact HI.out j c
          · subst c; rw [HXE.out]; exact d
        have e1 := HE1.out
        clear d HInI
        go_upto_region 4 with fail
        refine wp_region_held_drew (S := (fun w' => (w'.cell? ⟨b, i * 2, none⟩ = some (.int .i64 x.1) ∧ w'.cell? ⟨b, i * 2 + 1, none⟩ = some (.int .i64 x.2)) ∧ w'.cell? ⟨w.heap.size, 0, none⟩ = some (.int .i64 p1) ∧ w'.cell? ⟨w.heap.size, 1, none⟩ = some (.int .i64 p2))) (by kernel_rfl) ?_ (fun hHeld => ?_)
        · (try dsimp only); (with_reducible first | exact HQ.out _ HC | exact HQ.out _ ⟨HC.1.drew, HC.2.drew⟩)
        refine wt (i := 0) (v := ?vt2q0x2) rfl ?ht2q0x2 ?rt2q0x2
        case ht2q0x2 => (intro w hSw; (try dsimp only at hSw); go_simp; try with_reducible rfl)
        (try simp only [Act.put, lq1, lq2, lq4, lq5, lq6])
        refine wt (i := 1) (v := ?vt2q1x5) rfl ?ht2q1x5 ?rt2q1x5
        case ht2q1x5 => (intro w hSw; (try dsimp only at hSw); go_simp; try with_reducible rfl)
        (try simp only [Act.put, lq1, lq2, lq3, lq4, lq5, lq6])
        refine wt (i := 2) (v := ?vt2q2x8) rfl ?ht2q2x8 ?rt2q2x8
        case ht2q2x8 => (intro w hSw; (try dsimp only at hSw); go_simp; try with_reducible rfl)
        (try simp only [Act.put, lq1, lq2, lq3, lq4, lq5, lq6])
        refine wt (i := 3) (v := ?vt2q3x11) rfl ?ht2q3x11 ?rt2q3x11
        case ht2q3x11 => (intro w hSw; (try dsimp only at hSw); go_simp; try with_reducible rfl)
        (try simp only [Act.put, lq1, lq2, lq3, lq4, lq5, lq6])
        refine wt (i := 4) (v := ?vt2q4x14) rfl ?ht2q4x14 ?rt2q4x14
        case ht2q4x14 => (intro w hSw; (try dsimp only at hSw); go_simp; try with_reducible rfl)
        (try simp only [Act.put, lq1, lq2, lq3, lq4, lq5, lq6])
        refine wt (i := 5) (v := ?vt2q5x17) rfl ?ht2q5x17 ?rt2q5x17
        case ht2q5x17 => (intro w hSw; (try dsimp only at hSw); go_simp; try with_reducible rfl)
        (try simp only [Act.put, lq1, lq2, lq3, lq4, lq5, lq6])
        refine wpAnyH_done (by kernel_rfl) ?_ _
        go_wp2
        go_roundw
        case rel => exact ⟨i + 1, HIN.out, by go_num, HI2, by first | exact HC.2 | exact HC.2.drew⟩
        case measure => have := HIN.out; simp [intOf]; omega
end Go.Proofs.YtnadgoomkaldkaaDoor
