/-
  mercatorref3.less, mercatorref3.CirclesOf.
-/
import Derived.Test.YtilgamhdcmkkeaaDoorQFxD
namespace Go.Proofs.YtilgamhdcmkkeaaDoor
open Go.RowKit BG
attribute [local go_sem ↓] Go.wp_at_zero Go.wp_at_succ

/-- In reach of the document's numbers. -/
def Br (z : Int) : Prop := z.natAbs < 1000000 ^ 50
theorem br_lid {z : Int} (h : Br z) : z.natAbs ≤ 2 * lid := by
  unfold Br at h
  have : 1000000 ^ 50 ≤ 2 * lid := by decide +kernel
  omega
theorem br_lt {z : Int} {k : Nat} (h : z.natAbs < 2 ^ k) (hk : k ≤ 250) : Br z := by
  refine Nat.lt_of_lt_of_le h (Nat.le_trans (Nat.pow_le_pow_right (n := 2) (by decide) hk) (Nat.le_trans (show 2 ^ 250 ≤ 1000000 ^ 13 by decide) (Nat.pow_le_pow_right (by decide) (by decide))))
theorem ofS' (n : Int) (h : Wd n) (hn : ¬ n = -9223372036854775808) (w : World) : Calls Tryd.prog 29 #[.int .i64 n] w fun e w' => ∃ m v, e = .returned (.agg #[.bool m, v]) ∧ Sg w' m v n ∧ Below w.heap.size w w' ∧ w.heap.size < w'.heap.size := signedOf_any n (by have := h.1; omega) h.2 w
theorem mulS' {w : World} {m n : Bool} {u v : Value} {x y : Int} (h : Sg w m u x) (k : Sg w n v y) (lx : Br x) (ly : Br y) : Calls Tryd.prog 31 #[.agg #[.bool m, u], .agg #[.bool n, v]] w fun e w' => ∃ o t, e = .returned (.agg #[.bool o, t]) ∧ Sg w' o t (x * y) ∧ Below w.heap.size w w' ∧ w.heap.size < w'.heap.size := signedMul_any lx ly h k
theorem Sg.form' {w : World} {m : Bool} {v : Value} {z : Int} (h : Sg w m v z) : ∃ ad cap, v = .slice ad (dn z.natAbs).length cap := h.1.form
set_option maxRecDepth 4000 in
set_option maxHeartbeats 4000000 in
theorem less_any {w : World} {m n : Bool} {u v : Value} {x y : Int} (h : Sg w m u x) (k : Sg w n v y) (lx : Br x) (ly : Br y) : Calls Tryd.prog 32 #[.agg #[.bool m, u], .agg #[.bool n, v]] w fun e w' => ∃ o t, e = .returned (.agg #[.bool o, t]) ∧ Sg w' o t (x - y) ∧ Below w.heap.size w w' ∧ w.heap.size < w'.heap.size := by
  have HB := hidb h
  have KB := hidb k
  have hge : w.heap.size ≤ w.heap.size + 1 + 1 := by omega
  have LX : Hid (x.natAbs ≤ 4 * lid) := by have := br_lid lx; exact (show x.natAbs ≤ 4 * lid by omega)
  have LY : Hid ((-y).natAbs ≤ 4 * lid) := by have := br_lid ly; rw [Int.natAbs_neg]; exact (show y.natAbs ≤ 4 * lid by omega)
  clear h k lx ly
  go_enter Tryd.func32, Tryd.ntmps32
  go_upto_region 1 with fail
  have VV := SF.init w m n u v 38
  have HC : Gr w (((w.alloc (.cells #[.bool m, u] 38)).alloc (.cells #[.bool n, v] 38)).alloc (.cells #[.bool false, .slice none 0 0] 38)) := (((Gr.refl w).alloc _).alloc _).alloc _
  generalize ((w.alloc (.cells #[.bool m, u] 38)).alloc (.cells #[.bool n, v] 38)).alloc (.cells #[.bool false, .slice none 0 0] 38) = w1 at *
  go_region_held (fun w' => w'.cell? ⟨w.heap.size, 0, none⟩ = some (.bool m) ∧ w'.cell? ⟨w.heap.size, 1, none⟩ = some u ∧ w'.cell? ⟨w.heap.size + 1, 0, none⟩ = some (.bool n) ∧ w'.cell? ⟨w.heap.size + 1, 1, none⟩ = some v)
      (first | (with_reducible exact VV.four) | (with_reducible exact VV.keep _ _) | exact VV.four)
      ((first
        | (go_at_call 55; refine (signedBack_any (KB.out.below HC.out.drew)).mono ?_; rintro e w6 ⟨nb, rfl, hs6, hB6, hlt⟩; (with_reducible first | replace hB6 := undr hB6 | skip); have HT := hidb hs6; replace VV := VV.below hB6; replace HC := Gr.step HC hB6; clear hB6 hlt hs6)
        | (go_at_call 30; with_reducible refine (signedAdd_any LX.out LY.out (HB.out.below HC.out) HT.out).mono ?_; rintro e w5 ⟨o, t, rfl, ht, hB5, hlt⟩; (with_reducible first | replace hB5 := undr hB5 | skip); replace VV := VV.below hB5; replace HC := Gr.step HC hB5; rw [← Int.sub_eq_add_neg] at ht; obtain ⟨ad, cap, hf⟩ := ht.form'; have HT5 := hidb ht; rw [hf] at HT5 ⊢; clear ht hf hB5 hlt; obtain ⟨r0, r1⟩ := VV.fr.c2; obtain ⟨f0, f1⟩ := VV.fr.f2)))
  all_goals
    go_wp2
    exact bodyPost_ret (v := .agg #[.bool o, .slice ad (dn (x - y).natAbs).length cap]) (by simp [results, Tryd.results32, go_sem, r0, r1]) rfl ⟨_, _, rfl, ⟨HT5.out.1.setS2 VV.fr _, HT5.out.2⟩, (HC.set hge _ _).set hge _ _, by have := VV.fr.lt; simp; omega⟩
set_option maxRecDepth 4000 in
set_option maxHeartbeats 8000000 in
theorem circles_same (a b : Rg) (h : okR a ∧ okR b) (hx : a.x = b.x ∧ a.y = b.y) (w : World) : Calls Tryd.prog 21 #[a.v, b.v] w fun e w' => e = .returned (.tuple #[.int .i64 (rnd a.q b.q), .agg #[.int .i64 0, .int .i64 1], .int .i64 0]) ∧ Gr w w' := by
  obtain ⟨ax, ay, aq⟩ := a
  obtain ⟨bx, b_y, bq⟩ := b
  obtain ⟨rfl, rfl⟩ : ax = bx ∧ ay = b_y := hx
  obtain ⟨⟨⟨⟨h1, h2⟩, h3, h4⟩, h5, h6⟩, h7, h8, h9⟩ := h
  dsimp only at *
  have hge : w.heap.size ≤ w.heap.size + 1 + 1 := by omega
  have VV := (BW.init w ⟨ax, ay, aq⟩ ⟨ax, ay, bq⟩ 58 25).alloc (.cells #[.int .i64 0, .int .i64 1] 25)
  have HC : Gr w ((((w.alloc (.cells #[.int .i64 ax, .int .i64 ay, .int .i64 aq] 58)).alloc (.cells #[.int .i64 ax, .int .i64 ay, .int .i64 bq] 58)).alloc (.cells #[.int .i64 0, .int .i64 0] 25)).alloc (.cells #[.int .i64 0, .int .i64 1] 25)) := ((((Gr.refl w).alloc _).alloc _).alloc _).alloc _
  have N1 := At.nz2 (W := w) (.cells #[.int .i64 ax, .int .i64 ay, .int .i64 aq] 58) (.cells #[.int .i64 ax, .int .i64 ay, .int .i64 bq] 58) (.cells #[.int .i64 0, .int .i64 0] 25) (.int .i64 0) (.int .i64 1) 25
  have hne : ¬ w.heap.size + 1 + 1 = w.heap.size + 1 + 1 + 1 := by omega
  obtain ⟨z0, z1⟩ := VV.fr.c2
  obtain ⟨f0, f1⟩ := VV.fr.f2
  unfold rnd
  by_cases c : aq = bq
  · subst c
    rw [if_pos rfl]
    by_cases d : aq = 0
    · rw [if_pos d]
      subst d
      go_enter Tryd.func21, Tryd.ntmps21
      go_upto_region 9 with fail
      generalize (((w.alloc (.cells #[.int .i64 ax, .int .i64 ay, .int .i64 0] 58)).alloc (.cells #[.int .i64 ax, .int .i64 ay, .int .i64 0] 58)).alloc (.cells #[.int .i64 0, .int .i64 0] 25)).alloc (.cells #[.int .i64 0, .int .i64 1] 25) = w2 at *
      go_region_held (fun w' => w'.cell? ⟨w.heap.size + 1 + 1 + 1, 0, none⟩ = some (.int .i64 0) ∧ w'.cell? ⟨w.heap.size + 1 + 1 + 1, 1, none⟩ = some (.int .i64 1))
        (first | (with_reducible exact N1.c2) | exact N1.c2 | exact ((N1.skip hne _ _).skip hne _ _).c2)
        (fail)
      all_goals
        go_wp2
        obtain ⟨r0, r1⟩ := (At.fill2 (VV.fr.has rfl) (.int .i64 0) (.int .i64 1)).drew.c2
        exact bodyPost_ret (v := .tuple #[.int .i64 1, .agg #[.int .i64 0, .int .i64 1], .int .i64 0]) (by simp [results, Tryd.results21, go_sem, r0, r1]) rfl ⟨rfl, ((HC.set hge _ _).set hge _ _).drew⟩
    · rw [if_neg d]
      have d1 : 0 < aq := by omega
      go_enter Tryd.func21, Tryd.ntmps21
      go_upto_region 7 with fail
      generalize (((w.alloc (.cells #[.int .i64 ax, .int .i64 ay, .int .i64 aq] 58)).alloc (.cells #[.int .i64 ax, .int .i64 ay, .int .i64 aq] 58)).alloc (.cells #[.int .i64 0, .int .i64 0] 25)).alloc (.cells #[.int .i64 0, .int .i64 1] 25) = w2 at *
      go_region_held (fun w' => w'.cell? ⟨w.heap.size + 1 + 1 + 1, 0, none⟩ = some (.int .i64 0) ∧ w'.cell? ⟨w.heap.size + 1 + 1 + 1, 1, none⟩ = some (.int .i64 1))
        (first | (with_reducible exact N1.c2) | exact N1.c2 | exact ((N1.skip hne _ _).skip hne _ _).c2)
        (fail)
      all_goals
        go_wp2
        obtain ⟨r0, r1⟩ := (At.fill2 (VV.fr.has rfl) (.int .i64 0) (.int .i64 1)).drew.c2
        exact bodyPost_ret (v := .tuple #[.int .i64 (-1), .agg #[.int .i64 0, .int .i64 1], .int .i64 0]) (by simp [results, Tryd.results21, go_sem, r0, r1]) rfl ⟨rfl, ((HC.set hge _ _).set hge _ _).drew⟩
  · rw [if_neg c]
    go_enter Tryd.func21, Tryd.ntmps21
    go_upto_region 10 with fail
    generalize (((w.alloc (.cells #[.int .i64 ax, .int .i64 ay, .int .i64 aq] 58)).alloc (.cells #[.int .i64 ax, .int .i64 ay, .int .i64 bq] 58)).alloc (.cells #[.int .i64 0, .int .i64 0] 25)).alloc (.cells #[.int .i64 0, .int .i64 1] 25) = w2 at *
    go_region_held (fun w' => w'.cell? ⟨w.heap.size + 1 + 1 + 1, 0, none⟩ = some (.int .i64 0) ∧ w'.cell? ⟨w.heap.size + 1 + 1 + 1, 1, none⟩ = some (.int .i64 1))
      (first | (with_reducible exact N1.c2) | exact N1.c2 | exact ((N1.skip hne _ _).skip hne _ _).c2)
      (fail)
    all_goals
      go_wp2
      obtain ⟨r0, r1⟩ := (At.fill2 (VV.fr.has rfl) (.int .i64 0) (.int .i64 1)).drew.c2
      exact bodyPost_ret (v := .tuple #[.int .i64 0, .agg #[.int .i64 0, .int .i64 1], .int .i64 0]) (by simp [results, Tryd.results21, go_sem, r0, r1]) rfl ⟨rfl, ((HC.set hge _ _).set hge _ _).drew⟩
end Go.Proofs.YtilgamhdcmkkeaaDoor
