/-
  mercatorref1.SignedAdd, mercatorref1.SignedCmp, mercatorref1.CmpOf.
-/
import Derived.Test.YtgjjgicojedefaaDoorSgA
import Derived.Deep.CutRange
namespace Go.Proofs.YtgjjgicojedefaaDoor
open Go.RowKit BG
attribute [local go_sem ↓] Go.wp_at_zero Go.wp_at_succ

/-- What lies in memory while two signed numbers are joined: both, and the answer's own block. -/
structure SF (W : World) (b : Nat) (m : Bool) (u : Value) (n : Bool) (v : Value) : Prop where
  fa : At W b [.bool m, u]
  fb : At W (b + 1) [.bool n, v]
  fr : At W (b + 1 + 1) [.bool false, .slice none 0 0]
theorem SF.below {W w' : World} {b : Nat} {m n : Bool} {u v : Value} (h : SF W b m u n v) (hB : Below W.heap.size W w') : SF w' b m u n v := ⟨At.below hB h.fa, At.below hB h.fb, At.below hB h.fr⟩
theorem SF.drew {W : World} {b : Nat} {m n : Bool} {u v : Value} (h : SF W b m u n v) : SF W.drew b m u n v := ⟨h.fa.drew, h.fb.drew, h.fr.drew⟩
theorem SF.init (w : World) (m n : Bool) (u v : Value) (t : Nat) : SF (((w.alloc (.cells #[.bool m, u] t)).alloc (.cells #[.bool n, v] t)).alloc (.cells #[.bool false, .slice none 0 0] t)) w.heap.size m u n v :=
  ⟨((At.new2 w (.bool m) u t).alloc _).alloc _, (At.nx2 (W := w) _ (.bool n) v t).alloc _, At.ny2 (W := w) _ _ (.bool false) (.slice none 0 0) t⟩
theorem SF.four {W : World} {b : Nat} {m n : Bool} {u v : Value} (h : SF W b m u n v) : W.cell? ⟨b, 0, none⟩ = some (.bool m) ∧ W.cell? ⟨b, 1, none⟩ = some u ∧ W.cell? ⟨b + 1, 0, none⟩ = some (.bool n) ∧ W.cell? ⟨b + 1, 1, none⟩ = some v := ⟨h.fa.c2.1, h.fa.c2.2, h.fb.c2.1, h.fb.c2.2⟩
theorem SF.keep {W : World} {b : Nat} {m n : Bool} {u v : Value} (h : SF W b m u n v) (x y : Value) : ((W.setCell ⟨b + 1 + 1, 0, none⟩ x).setCell ⟨b + 1 + 1, 1, none⟩ y).cell? ⟨b, 0, none⟩ = some (.bool m) ∧ ((W.setCell ⟨b + 1 + 1, 0, none⟩ x).setCell ⟨b + 1 + 1, 1, none⟩ y).cell? ⟨b, 1, none⟩ = some u ∧ ((W.setCell ⟨b + 1 + 1, 0, none⟩ x).setCell ⟨b + 1 + 1, 1, none⟩ y).cell? ⟨b + 1, 0, none⟩ = some (.bool n) ∧ ((W.setCell ⟨b + 1 + 1, 0, none⟩ x).setCell ⟨b + 1 + 1, 1, none⟩ y).cell? ⟨b + 1, 1, none⟩ = some v := by
  have ha := ((h.fa.skip (c := b + 1 + 1) (by omega) 0 x).skip (c := b + 1 + 1) (by omega) 1 y).c2
  have hb := ((h.fb.skip (c := b + 1 + 1) (by omega) 0 x).skip (c := b + 1 + 1) (by omega) 1 y).c2
  exact ⟨ha.1, ha.2, hb.1, hb.2⟩
theorem undr {W w' : World} (h : Below W.drew.heap.size W.drew w') : Below W.heap.size W w' := ⟨h.1, h.2, h.3, h.4, h.5⟩
theorem add_same {x y : Int} (h : decide (x < 0) = decide (y < 0)) : (x + y).natAbs = x.natAbs + y.natAbs ∧ decide (x + y < 0) = decide (x < 0) := by
  by_cases c : x < 0
  · rw [decide_eq_true c] at h
    have := of_decide_eq_true h.symm
    exact ⟨by omega, by rw [decide_eq_true c, decide_eq_true (by omega)]⟩
  · rw [decide_eq_false c] at h
    have := of_decide_eq_false h.symm
    exact ⟨by omega, by rw [decide_eq_false c, decide_eq_false (by omega)]⟩
theorem add_first {x y : Int} (h : decide (x < 0) ≠ decide (y < 0)) (hl : y.natAbs ≤ x.natAbs) : (x + y).natAbs = x.natAbs - y.natAbs ∧ decide (x + y < 0) = (decide (x < 0) && decide (x.natAbs - y.natAbs ≠ 0)) := by
  by_cases c : x < 0 <;> by_cases d : y < 0
  · rw [decide_eq_true c, decide_eq_true d] at h; exact absurd rfl h
  · refine ⟨by omega, ?_⟩
    rw [decide_eq_true c, Bool.true_and]
    by_cases e : x.natAbs - y.natAbs = 0
    · rw [decide_eq_false (by omega), decide_eq_false (by simpa using e)]
    · rw [decide_eq_true (by omega), decide_eq_true e]
  · refine ⟨by omega, ?_⟩
    rw [decide_eq_false c, Bool.false_and, decide_eq_false (by omega)]
  · rw [decide_eq_false c, decide_eq_false d] at h; exact absurd rfl h
theorem add_second {x y : Int} (h : decide (x < 0) ≠ decide (y < 0)) (hl : x.natAbs < y.natAbs) : (x + y).natAbs = y.natAbs - x.natAbs ∧ decide (x + y < 0) = decide (y < 0) := by
  by_cases c : x < 0 <;> by_cases d : y < 0
  · rw [decide_eq_true c, decide_eq_true d] at h; exact absurd rfl h
  · exact ⟨by omega, by rw [decide_eq_false d, decide_eq_false (by omega)]⟩
  · exact ⟨by omega, by rw [decide_eq_true d, decide_eq_true (by omega)]⟩
  · rw [decide_eq_false c, decide_eq_false d] at h; exact absurd rfl h
set_option maxRecDepth 4000 in
set_option maxHeartbeats 4000000 in
theorem signedAdd_any {w : World} {m n : Bool} {u v : Value} {x y : Int} (lx : x.natAbs ≤ 4 * lid) (ly : y.natAbs ≤ 4 * lid) (h : Sg w m u x) (k : Sg w n v y) : Calls Tryd.prog 55 #[.agg #[.bool m, u], .agg #[.bool n, v]] w fun e w' => ∃ o t, e = .returned (.agg #[.bool o, t]) ∧ Sg w' o t (x + y) ∧ Below w.heap.size w w' ∧ w.heap.size < w'.heap.size := by
  obtain ⟨hb, hm⟩ := h
  obtain ⟨kb, hn⟩ := k
  have HB := hidb hb
  have KB := hidb kb
  have hge : w.heap.size ≤ w.heap.size + 1 + 1 := by omega
  by_cases c : m = n
  · subst c
    obtain ⟨e1, e2⟩ := add_same (x := x) (y := y) (hm.symm.trans hn)
    have HE := hidb e1
    have HS : Hid (m = decide (x + y < 0)) := by rw [e2]; exact hm
    have HP := hidb (fun w (h : Bg w u (dn x.natAbs)) (k : Bg w v (dn y.natAbs)) => add_dn (by omega) (by omega) h k)
    clear hb kb hm hn lx ly e1 e2
    have hmm : (m == m) = true := by simp
    go_enter Tryd.func55, Tryd.ntmps55
    go_upto_region 2 with fail
    have VV := SF.init w m m u v 38
    have HC : Gr w (((w.alloc (.cells #[.bool m, u] 38)).alloc (.cells #[.bool m, v] 38)).alloc (.cells #[.bool false, .slice none 0 0] 38)) := (((Gr.refl w).alloc _).alloc _).alloc _
    generalize ((w.alloc (.cells #[.bool m, u] 38)).alloc (.cells #[.bool m, v] 38)).alloc (.cells #[.bool false, .slice none 0 0] 38) = w1 at *
    go_region_held (fun w' => w'.cell? ⟨w.heap.size, 0, none⟩ = some (.bool m) ∧ w'.cell? ⟨w.heap.size, 1, none⟩ = some u ∧ w'.cell? ⟨w.heap.size + 1, 0, none⟩ = some (.bool m) ∧ w'.cell? ⟨w.heap.size + 1, 1, none⟩ = some v)
      (first | (with_reducible exact VV.four) | (with_reducible exact VV.keep _ _) | exact VV.four)
      ((first
        | (go_at_call 67; refine (HP.out _ (HB.out.below HC.out.drew) (KB.out.below HC.out.drew)).mono ?_; rintro e w5 ⟨t, rfl, ht, hB5⟩; (with_reducible first | replace hB5 := undr hB5 | skip); replace VV := VV.below hB5; replace HC := Gr.step HC hB5; obtain ⟨ad, cap, hf⟩ := ht.form; have HT := hidb ht; rw [hf] at HT ⊢; clear ht hf hB5; obtain ⟨r0, r1⟩ := VV.fr.c2; obtain ⟨f0, f1⟩ := VV.fr.f2)))
    go_wp2
    exact bodyPost_ret (v := .agg #[.bool m, .slice ad (dn (x.natAbs + y.natAbs)).length cap]) (by simp [results, Tryd.results55, go_sem, r0, r1]) rfl ⟨_, _, rfl, ⟨by rw [HE.out]; exact HT.out.setS2 VV.fr _, HS.out⟩, (HC.set hge _ _).set hge _ _, by have := VV.fr.lt; simp; omega⟩
  have hmn : (m == n) = false := by simp [c]
  have hd : decide (x < 0) ≠ decide (y < 0) := by rw [← hm, ← hn]; exact c
  have HQ := hidb (fun w (h : Bg w u (dn x.natAbs)) (k : Bg w v (dn y.natAbs)) => cmp_dn (by omega) (by omega) h k)
  by_cases g : y.natAbs ≤ x.natAbs
  · obtain ⟨e1, e2⟩ := add_first hd g
    have HE := hidb e1
    have HS : Hid (decide (x + y < 0) = (m && decide (x.natAbs - y.natAbs ≠ 0))) := by rw [hm]; exact e2
    have HP := hidb (fun w (h : Bg w u (dn x.natAbs)) (k : Bg w v (dn y.natAbs)) => sub_dn (by omega) g h k)
    have hcm := cm_ge g
    have HL := hidb (len_pos (x.natAbs - y.natAbs))
    generalize cm x.natAbs y.natAbs = cc at *
    clear hb kb hm hn lx ly e1 e2 hd
    go_enter Tryd.func55, Tryd.ntmps55
    go_upto_region 3 with fail
    have VV := SF.init w m n u v 38
    have HC : Gr w (((w.alloc (.cells #[.bool m, u] 38)).alloc (.cells #[.bool n, v] 38)).alloc (.cells #[.bool false, .slice none 0 0] 38)) := (((Gr.refl w).alloc _).alloc _).alloc _
    generalize ((w.alloc (.cells #[.bool m, u] 38)).alloc (.cells #[.bool n, v] 38)).alloc (.cells #[.bool false, .slice none 0 0] 38) = w1 at *
    obtain ⟨a0, a1, b0, b1⟩ := VV.four
    go_wp2_with fail
    refine (HQ.out _ (HB.out.below HC.out) (KB.out.below HC.out)).mono ?_
    rintro e w2 ⟨rfl, hB⟩
    replace VV := VV.below hB
    replace HC := Gr.step HC hB
    clear hB a0 a1 b0 b1
    obtain ⟨a0, a1, b0, b1⟩ := VV.four
    go_wp2_with fail
    refine (HP.out _ (HB.out.below HC.out) (KB.out.below HC.out)).mono ?_
    rintro e w3 ⟨t, rfl, ht, hB⟩
    replace VV := VV.below hB
    replace HC := Gr.step HC hB
    clear hB a0 a1 b0 b1
    obtain ⟨a0, a1, b0, b1⟩ := VV.four
    obtain ⟨r0, r1⟩ := VV.fr.c2
    obtain ⟨f0, f1⟩ := VV.fr.f2
    obtain ⟨ad, cap, hf⟩ := ht.form
    have HT := hidb ht
    rw [hf] at HT ⊢
    clear ht hf
    generalize hL : (dn (x.natAbs - y.natAbs)).length = L at *
    clear hL
    cases m
    all_goals
      go_wp2
      refine bodyPost_ret (v := .agg #[.bool _, .slice ad L cap]) (by simp [results, Tryd.results55, go_sem, r0, r1]; rfl) rfl ⟨_, _, rfl, ⟨by rw [HE.out]; exact HT.out.setS2 VV.fr _, ?_⟩, (HC.set hge _ _).set hge _ _, by have := VV.fr.lt; simp; omega⟩
    all_goals (rw [HS.out, ← HL.out]; first | rfl | simp)
  · obtain ⟨e1, e2⟩ := add_second hd (by omega)
    have HE := hidb e1
    have HS : Hid (n = decide (x + y < 0)) := by rw [e2]; exact hn
    have HP := hidb (fun w (h : Bg w v (dn y.natAbs)) (k : Bg w u (dn x.natAbs)) => sub_dn (by omega) (by omega) h k)
    have hcm := cm_lt (m := x.natAbs) (n := y.natAbs) (by omega)
    rw [hcm] at HQ
    clear hb kb hm hn lx ly e1 e2 hd hcm
    go_enter Tryd.func55, Tryd.ntmps55
    go_upto_region 3 with fail
    have VV := SF.init w m n u v 38
    have HC : Gr w (((w.alloc (.cells #[.bool m, u] 38)).alloc (.cells #[.bool n, v] 38)).alloc (.cells #[.bool false, .slice none 0 0] 38)) := (((Gr.refl w).alloc _).alloc _).alloc _
    generalize ((w.alloc (.cells #[.bool m, u] 38)).alloc (.cells #[.bool n, v] 38)).alloc (.cells #[.bool false, .slice none 0 0] 38) = w1 at *
    obtain ⟨a0, a1, b0, b1⟩ := VV.four
    go_wp2_with fail
    refine (HQ.out _ (HB.out.below HC.out) (KB.out.below HC.out)).mono ?_
    rintro e w2 ⟨rfl, hB⟩
    replace VV := VV.below hB
    replace HC := Gr.step HC hB
    clear hB a0 a1 b0 b1
    obtain ⟨a0, a1, b0, b1⟩ := VV.four
    go_upto_region 6 with fail
    go_region_held (fun w' => w'.cell? ⟨w.heap.size, 0, none⟩ = some (.bool m) ∧ w'.cell? ⟨w.heap.size, 1, none⟩ = some u ∧ w'.cell? ⟨w.heap.size + 1, 0, none⟩ = some (.bool n) ∧ w'.cell? ⟨w.heap.size + 1, 1, none⟩ = some v)
      (first | (with_reducible exact VV.four) | (with_reducible exact VV.keep _ _) | exact VV.four)
      ((first
        | (go_at_call 68; refine (HP.out _ (KB.out.below HC.out.drew) (HB.out.below HC.out.drew)).mono ?_; rintro e w5 ⟨t, rfl, ht, hB5⟩; (with_reducible first | replace hB5 := undr hB5 | skip); replace VV := VV.below hB5; replace HC := Gr.step HC hB5; obtain ⟨ad, cap, hf⟩ := ht.form; have HT := hidb ht; rw [hf] at HT ⊢; clear ht hf hB5; obtain ⟨r0, r1⟩ := VV.fr.c2; obtain ⟨f0, f1⟩ := VV.fr.f2)))
    go_wp2
    exact bodyPost_ret (v := .agg #[.bool n, .slice ad (dn (y.natAbs - x.natAbs)).length cap]) (by simp [results, Tryd.results55, go_sem, r0, r1]) rfl ⟨_, _, rfl, ⟨by rw [HE.out]; exact HT.out.setS2 VV.fr _, HS.out⟩, (HC.set hge _ _).set hge _ _, by have := VV.fr.lt; simp; omega⟩
end Go.Proofs.YtgjjgicojedefaaDoor
