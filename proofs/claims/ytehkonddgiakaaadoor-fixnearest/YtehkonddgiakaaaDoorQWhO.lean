/-
  whole.Number: Plus, Less, Times.
-/
import Derived.Test.YtehkonddgiakaaaDoorQWhM
namespace Go.Proofs.YtehkonddgiakaaaDoor
open Go.RowKit WH
attribute [local go_sem ↓] Go.wp_at_zero Go.wp_at_succ

theorem Gr.strict {w W w' : World} {b : Nat} (_h : Gr w W) (hb : b < W.heap.size) (k : Below W.heap.size W w') : b < w'.heap.size := Nat.lt_of_lt_of_le hb k.size
set_option maxRecDepth 4000 in
set_option maxHeartbeats 4000000 in
theorem plus_nm {w : World} {m n : Bool} {u v : Value} {x y : Int} (lx : x.natAbs < wlid) (ly : y.natAbs < wlid) (h : Nm w m u x) (k : Nm w n v y) : Calls Tryd.prog 43 #[.agg #[.bool m, u], .agg #[.bool n, v]] w fun e w' => ∃ o t, e = .returned (.agg #[.bool o, t]) ∧ Nm w' o t (x + y) ∧ Below w.heap.size w w' ∧ w.heap.size < w'.heap.size := by
  obtain ⟨hb, hm⟩ := h
  obtain ⟨kb, hn⟩ := k
  have HB := hidb hb
  have KB := hidb kb
  have hge : w.heap.size ≤ w.heap.size + 1 + 1 := by omega
  by_cases c : m = n
  · subst c
    obtain ⟨e1, e2⟩ := add_same (x := x) (y := y) (hm.symm.trans hn)
    have HE := hidb e1
    have HS : Hid ((m && decide (x.natAbs + y.natAbs ≠ 0)) = decide (x + y < 0)) := by
      show _ = _
      rw [e2, hm]
      by_cases c : x < 0
      · rw [decide_eq_true c, decide_eq_true (by omega)]; rfl
      · rw [decide_eq_false c]; rfl
    have HP := hidb (fun w (h : Pt w u (WH.dn x.natAbs)) (k : Pt w v (WH.dn y.natAbs)) => wsum_any lx ly h k)
    clear hb kb hm hn lx ly e1 e2
    have hmm : (m == m) = true := by simp
    go_enter Tryd.func43, Tryd.ntmps43
    go_upto_region 2 with fail
    have VV := SF.init w m m u v 68
    have HC : Gr w (((w.alloc (.cells #[.bool m, u] 68)).alloc (.cells #[.bool m, v] 68)).alloc (.cells #[.bool false, .slice none 0 0] 68)) := (((Gr.refl w).alloc _).alloc _).alloc _
    generalize ((w.alloc (.cells #[.bool m, u] 68)).alloc (.cells #[.bool m, v] 68)).alloc (.cells #[.bool false, .slice none 0 0] 68) = w1 at *
    go_region_held (fun w' => w'.cell? ⟨w.heap.size, 0, none⟩ = some (.bool m) ∧ w'.cell? ⟨w.heap.size, 1, none⟩ = some u ∧ w'.cell? ⟨w.heap.size + 1, 0, none⟩ = some (.bool m) ∧ w'.cell? ⟨w.heap.size + 1, 1, none⟩ = some v)
      (first | (with_reducible exact VV.four) | (with_reducible exact VV.keep _ _) | exact VV.four)
      ((first
        | (go_at_call 58; refine (HP.out _ (HB.out.below HC.out.drew) (KB.out.below HC.out.drew)).mono ?_; rintro e w5 ⟨t, rfl, ht, hB5⟩; replace hB5 := hB5.out; (with_reducible first | replace hB5 := undr hB5 | skip); replace VV := VV.below hB5; replace HC := Gr.step HC hB5; obtain ⟨ad, cap, hf⟩ := ht.form; have HT := hidb ht; rw [hf] at HT ⊢; clear ht hf hB5)
        | (go_at_call 56; refine (signed_any _ HT.out).mono ?_; rintro e w6 ⟨rfl, hB6, hlt⟩; (with_reducible first | replace hB6 := undr hB6 | skip); replace VV := VV.below hB6; replace HC := Gr.step HC hB6; replace HT := hidb (HT.out.below hB6); clear hB6 hlt; obtain ⟨r0, r1⟩ := VV.fr.c2; obtain ⟨f0, f1⟩ := VV.fr.f2)))
    go_wp2
    exact bodyPost_ret (v := .agg #[.bool (m && decide (x.natAbs + y.natAbs ≠ 0)), .slice ad (WH.dn (x.natAbs + y.natAbs)).length cap]) (by simp [results, Tryd.results43, go_sem, r0, r1]) rfl ⟨_, _, rfl, ⟨by rw [HE.out]; exact HT.out.setS2 VV.fr _, HS.out⟩, (HC.set hge _ _).set hge _ _, by have := VV.fr.lt; simp; omega⟩
  have hmn : (m == n) = false := by simp [c]
  have hd : decide (x < 0) ≠ decide (y < 0) := by rw [← hm, ← hn]; exact c
  have HQ := hidb (fun w (h : Pt w u (WH.dn x.natAbs)) (k : Pt w v (WH.dn y.natAbs)) => wcmp_any lx ly h k)
  by_cases g : y.natAbs ≤ x.natAbs
  · obtain ⟨e1, e2⟩ := add_first hd g
    have HE := hidb e1
    have HS : Hid ((m && decide (x.natAbs - y.natAbs ≠ 0)) = decide (x + y < 0)) := by rw [hm]; exact e2.symm
    have HP := hidb (fun w (h : Pt w u (WH.dn x.natAbs)) (k : Pt w v (WH.dn y.natAbs)) => wdiff_any lx g h k)
    have hcm := cm_ge g
    generalize cm x.natAbs y.natAbs = cc at *
    clear hb kb hm hn lx ly e1 e2 hd
    go_enter Tryd.func43, Tryd.ntmps43
    go_upto_region 3 with fail
    have VV := SF.init w m n u v 68
    have HC : Gr w (((w.alloc (.cells #[.bool m, u] 68)).alloc (.cells #[.bool n, v] 68)).alloc (.cells #[.bool false, .slice none 0 0] 68)) := (((Gr.refl w).alloc _).alloc _).alloc _
    generalize ((w.alloc (.cells #[.bool m, u] 68)).alloc (.cells #[.bool n, v] 68)).alloc (.cells #[.bool false, .slice none 0 0] 68) = w1 at *
    obtain ⟨a0, a1, b0, b1⟩ := VV.four
    go_wp2_with fail
    refine (HQ.out _ (HB.out.below HC.out) (KB.out.below HC.out)).mono ?_
    rintro e w2 ⟨rfl, hB⟩
    replace VV := VV.below hB
    replace HC := Gr.step HC hB
    clear hB a0 a1 b0 b1
    go_upto_region 5 with fail
    go_region_held (fun w' => w'.cell? ⟨w.heap.size, 0, none⟩ = some (.bool m) ∧ w'.cell? ⟨w.heap.size, 1, none⟩ = some u ∧ w'.cell? ⟨w.heap.size + 1, 0, none⟩ = some (.bool n) ∧ w'.cell? ⟨w.heap.size + 1, 1, none⟩ = some v)
      (first | (with_reducible exact VV.four) | (with_reducible exact VV.keep _ _) | exact VV.four)
      ((first
        | (go_at_call 60; refine (HP.out _ (HB.out.below HC.out.drew) (KB.out.below HC.out.drew)).mono ?_; rintro e w5 ⟨t, rfl, ht, hB5⟩; replace hB5 := hB5.out; (with_reducible first | replace hB5 := undr hB5 | skip); replace VV := VV.below hB5; replace HC := Gr.step HC hB5; obtain ⟨ad, cap, hf⟩ := ht.form; have HT := hidb ht; rw [hf] at HT ⊢; clear ht hf hB5)
        | (go_at_call 56; refine (signed_any _ HT.out).mono ?_; rintro e w6 ⟨rfl, hB6, hlt⟩; (with_reducible first | replace hB6 := undr hB6 | skip); replace VV := VV.below hB6; replace HC := Gr.step HC hB6; replace HT := hidb (HT.out.below hB6); clear hB6 hlt; obtain ⟨r0, r1⟩ := VV.fr.c2; obtain ⟨f0, f1⟩ := VV.fr.f2)))
    go_wp2
    exact bodyPost_ret (v := .agg #[.bool (m && decide (x.natAbs - y.natAbs ≠ 0)), .slice ad (WH.dn (x.natAbs - y.natAbs)).length cap]) (by simp [results, Tryd.results43, go_sem, r0, r1]) rfl ⟨_, _, rfl, ⟨by rw [HE.out]; exact HT.out.setS2 VV.fr _, HS.out⟩, (HC.set hge _ _).set hge _ _, by have := VV.fr.lt; simp; omega⟩
  · obtain ⟨e1, e2⟩ := add_second hd (by omega)
    have HE := hidb e1
    have HS : Hid ((n && decide (y.natAbs - x.natAbs ≠ 0)) = decide (x + y < 0)) := by
      rw [e2, hn, decide_eq_true (show y.natAbs - x.natAbs ≠ 0 by omega), Bool.and_true]; rfl
    have HP := hidb (fun w (h : Pt w v (WH.dn y.natAbs)) (k : Pt w u (WH.dn x.natAbs)) => wdiff_any ly (by omega) h k)
    have hcm := cm_lt (m := x.natAbs) (n := y.natAbs) (by omega)
    rw [hcm] at HQ
    clear hb kb hm hn lx ly e1 e2 hd hcm
    go_enter Tryd.func43, Tryd.ntmps43
    go_upto_region 3 with fail
    have VV := SF.init w m n u v 68
    have HC : Gr w (((w.alloc (.cells #[.bool m, u] 68)).alloc (.cells #[.bool n, v] 68)).alloc (.cells #[.bool false, .slice none 0 0] 68)) := (((Gr.refl w).alloc _).alloc _).alloc _
    generalize ((w.alloc (.cells #[.bool m, u] 68)).alloc (.cells #[.bool n, v] 68)).alloc (.cells #[.bool false, .slice none 0 0] 68) = w1 at *
    obtain ⟨a0, a1, b0, b1⟩ := VV.four
    go_wp2_with fail
    refine (HQ.out _ (HB.out.below HC.out) (KB.out.below HC.out)).mono ?_
    rintro e w2 ⟨rfl, hB⟩
    replace VV := VV.below hB
    replace HC := Gr.step HC hB
    clear hB a0 a1 b0 b1
    go_upto_region 4 with fail
    go_region_held (fun w' => w'.cell? ⟨w.heap.size, 0, none⟩ = some (.bool m) ∧ w'.cell? ⟨w.heap.size, 1, none⟩ = some u ∧ w'.cell? ⟨w.heap.size + 1, 0, none⟩ = some (.bool n) ∧ w'.cell? ⟨w.heap.size + 1, 1, none⟩ = some v)
      (first | (with_reducible exact VV.four) | (with_reducible exact VV.keep _ _) | exact VV.four)
      ((first
        | (go_at_call 60; refine (HP.out _ (KB.out.below HC.out.drew) (HB.out.below HC.out.drew)).mono ?_; rintro e w5 ⟨t, rfl, ht, hB5⟩; replace hB5 := hB5.out; (with_reducible first | replace hB5 := undr hB5 | skip); replace VV := VV.below hB5; replace HC := Gr.step HC hB5; obtain ⟨ad, cap, hf⟩ := ht.form; have HT := hidb ht; rw [hf] at HT ⊢; clear ht hf hB5)
        | (go_at_call 56; refine (signed_any _ HT.out).mono ?_; rintro e w6 ⟨rfl, hB6, hlt⟩; (with_reducible first | replace hB6 := undr hB6 | skip); replace VV := VV.below hB6; replace HC := Gr.step HC hB6; replace HT := hidb (HT.out.below hB6); clear hB6 hlt; obtain ⟨r0, r1⟩ := VV.fr.c2; obtain ⟨f0, f1⟩ := VV.fr.f2)))
    go_wp2
    exact bodyPost_ret (v := .agg #[.bool (n && decide (y.natAbs - x.natAbs ≠ 0)), .slice ad (WH.dn (y.natAbs - x.natAbs)).length cap]) (by simp [results, Tryd.results43, go_sem, r0, r1]) rfl ⟨_, _, rfl, ⟨by rw [HE.out]; exact HT.out.setS2 VV.fr _, HS.out⟩, (HC.set hge _ _).set hge _ _, by have := VV.fr.lt; simp; omega⟩
set_option maxRecDepth 4000 in
set_option maxHeartbeats 4000000 in
theorem times_nm {w : World} {m n : Bool} {u v : Value} {x y : Int} (lx : x.natAbs < wlid) (ly : y.natAbs < wlid) (h : Nm w m u x) (k : Nm w n v y) : Calls Tryd.prog 44 #[.agg #[.bool m, u], .agg #[.bool n, v]] w fun e w' => ∃ o t, e = .returned (.agg #[.bool o, t]) ∧ Nm w' o t (x * y) ∧ Below w.heap.size w w' ∧ w.heap.size < w'.heap.size := by
  obtain ⟨hb, hm⟩ := h
  obtain ⟨kb, hn⟩ := k
  have HB := hidb hb
  have KB := hidb kb
  have hge : w.heap.size ≤ w.heap.size + 1 + 1 := by omega
  have HS : Hid (((m != n) && decide (x.natAbs * y.natAbs ≠ 0)) = decide (x * y < 0)) := by rw [hm, hn]; exact (mul_sign x y).symm
  have HE : Hid ((x * y).natAbs = x.natAbs * y.natAbs) := Int.natAbs_mul x y
  have HP := hidb (fun w (h : Pt w u (WH.dn x.natAbs)) (k : Pt w v (WH.dn y.natAbs)) => wmul_any lx ly h k)
  clear hb kb hm hn lx ly
  go_enter Tryd.func44, Tryd.ntmps44
  go_upto_region 1 with fail
  have VV := SF.init w m n u v 68
  have HC : Gr w (((w.alloc (.cells #[.bool m, u] 68)).alloc (.cells #[.bool n, v] 68)).alloc (.cells #[.bool false, .slice none 0 0] 68)) := (((Gr.refl w).alloc _).alloc _).alloc _
  generalize ((w.alloc (.cells #[.bool m, u] 68)).alloc (.cells #[.bool n, v] 68)).alloc (.cells #[.bool false, .slice none 0 0] 68) = w1 at *
  go_region_held (fun w' => w'.cell? ⟨w.heap.size, 0, none⟩ = some (.bool m) ∧ w'.cell? ⟨w.heap.size, 1, none⟩ = some u ∧ w'.cell? ⟨w.heap.size + 1, 0, none⟩ = some (.bool n) ∧ w'.cell? ⟨w.heap.size + 1, 1, none⟩ = some v)
      (first | (with_reducible exact VV.four) | (with_reducible exact VV.keep _ _) | exact VV.four)
      ((first
        | (go_at_call 61; refine (HP.out _ (HB.out.below HC.out.drew) (KB.out.below HC.out.drew)).mono ?_; rintro e w5 ⟨t, rfl, ht, hB5⟩; replace hB5 := hB5.out; (with_reducible first | replace hB5 := undr hB5 | skip); replace VV := VV.below hB5; replace HC := Gr.step HC hB5; obtain ⟨ad, cap, hf⟩ := ht.form; have HT := hidb ht; rw [hf] at HT ⊢; clear ht hf hB5)
        | (go_at_call 56; refine (signed_any _ HT.out).mono ?_; rintro e w6 ⟨rfl, hB6, hlt⟩; (with_reducible first | replace hB6 := undr hB6 | skip); replace VV := VV.below hB6; replace HC := Gr.step HC hB6; replace HT := hidb (HT.out.below hB6); clear hB6 hlt; obtain ⟨r0, r1⟩ := VV.fr.c2; obtain ⟨f0, f1⟩ := VV.fr.f2)))
  go_wp2
  exact bodyPost_ret (v := .agg #[.bool ((m != n) && decide (x.natAbs * y.natAbs ≠ 0)), .slice ad (WH.dn (x.natAbs * y.natAbs)).length cap]) (by simp [results, Tryd.results44, go_sem, r0, r1]; rfl) rfl ⟨_, _, rfl, ⟨by rw [HE.out]; exact HT.out.setS2 VV.fr _, HS.out⟩, (HC.set hge _ _).set hge _ _, by have := VV.fr.lt; simp; omega⟩
theorem neg_sign (z : Int) (m : Bool) (h : m = decide (z < 0)) : ((!m) && decide (z.natAbs ≠ 0)) = decide (-z < 0) := by rw [h]; exact (back_sign z).symm
set_option maxRecDepth 4000 in
set_option maxHeartbeats 4000000 in
theorem less_nm {w : World} {m n : Bool} {u v : Value} {x y : Int} (lx : x.natAbs < wlid) (ly : y.natAbs < wlid) (h : Nm w m u x) (k : Nm w n v y) : Calls Tryd.prog 46 #[.agg #[.bool m, u], .agg #[.bool n, v]] w fun e w' => ∃ o t, e = .returned (.agg #[.bool o, t]) ∧ Nm w' o t (x - y) ∧ Below w.heap.size w w' ∧ w.heap.size < w'.heap.size := by
  have HB := hidb h
  have KB := hidb k.1
  obtain ⟨nb, hnb⟩ : ∃ nb, nb = ((!n) && decide (y.natAbs ≠ 0)) := ⟨_, rfl⟩
  have HN : Hid (nb = decide (-y < 0)) := hnb.trans (neg_sign y n k.2)
  have HSG : Hid (∀ w, Pt w v (WH.dn y.natAbs) → Calls Tryd.prog 56 #[.bool (!n), v] w fun e w' => e = .returned (.agg #[.bool nb, v]) ∧ Below w.heap.size w w' ∧ w.heap.size < w'.heap.size) := fun w h => by
    have := signed_any (!n) h
    rw [← hnb] at this
    exact this
  have hge : w.heap.size ≤ w.heap.size + 1 + 1 := by omega
  have LX := hidb lx
  have LY : Hid ((-y).natAbs < wlid) := by rw [Int.natAbs_neg]; exact ly
  clear h k lx ly hnb
  go_enter Tryd.func46, Tryd.ntmps46
  go_upto_region 1 with fail
  have VV := SF.init w m n u v 68
  have HC : Gr w (((w.alloc (.cells #[.bool m, u] 68)).alloc (.cells #[.bool n, v] 68)).alloc (.cells #[.bool false, .slice none 0 0] 68)) := (((Gr.refl w).alloc _).alloc _).alloc _
  generalize ((w.alloc (.cells #[.bool m, u] 68)).alloc (.cells #[.bool n, v] 68)).alloc (.cells #[.bool false, .slice none 0 0] 68) = w1 at *
  go_region_held (fun w' => w'.cell? ⟨w.heap.size, 0, none⟩ = some (.bool m) ∧ w'.cell? ⟨w.heap.size, 1, none⟩ = some u ∧ w'.cell? ⟨w.heap.size + 1, 0, none⟩ = some (.bool n) ∧ w'.cell? ⟨w.heap.size + 1, 1, none⟩ = some v)
      (first | (with_reducible exact VV.four) | (with_reducible exact VV.keep _ _) | exact VV.four)
      ((first
        | (go_at_call 56; refine (HSG.out _ (KB.out.below HC.out.drew)).mono ?_; rintro e w6 ⟨rfl, hB6, hlt⟩; (with_reducible first | replace hB6 := undr hB6 | skip); have HT : Hid (Nm w6 nb v (-y)) := ⟨by rw [Int.natAbs_neg]; exact KB.out.below (HC.out.trans (hB6.mono HC.out.size)), HN.out⟩; replace VV := VV.below hB6; replace HC := Gr.step HC hB6; clear hB6 hlt)
        | (go_at_call 43; with_reducible refine (plus_nm LX.out LY.out (HB.out.below HC.out) HT.out).mono ?_; rintro e w5 ⟨o, t, rfl, ht, hB5, hlt⟩; (with_reducible first | replace hB5 := undr hB5 | skip); replace VV := VV.below hB5; replace HC := Gr.step HC hB5; rw [← Int.sub_eq_add_neg] at ht; obtain ⟨ad, L, cap, hf⟩ := ht.form; have HT5 := hidb ht; rw [hf] at HT5 ⊢; clear ht hf hB5 hlt; obtain ⟨r0, r1⟩ := VV.fr.c2; obtain ⟨f0, f1⟩ := VV.fr.f2)))
  all_goals
    go_wp2
    exact bodyPost_ret (v := .agg #[.bool o, .slice ad L cap]) (by simp [results, Tryd.results46, go_sem, r0, r1]) rfl ⟨_, _, rfl, ⟨HT5.out.1.setS2 VV.fr _, HT5.out.2⟩, (HC.set hge _ _).set hge _ _, by have := VV.fr.lt; simp; omega⟩
end Go.Proofs.YtehkonddgiakaaaDoor
