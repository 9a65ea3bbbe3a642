/-
  fix.normal.crossed.
-/
import Derived.Test.YtehkonddgiakaaaDoorQFxK
namespace Go.Proofs.YtehkonddgiakaaaDoor
open Go.RowKit
attribute [local go_sem ↓] Go.wp_at_zero Go.wp_at_succ

/-- The determinant of two columns of the first two rows. -/
def crs (zs : List Int) (a b : Nat) : Int := zs.getD a 0 * zs.getD (3 + b) 0 - zs.getD b 0 * zs.getD (3 + a) 0
theorem getD9 {zs : List Int} (hl : zs.length = 9) {t : Nat} (h : t < 9) : zs.getD t 0 = zs[t] := by
  rw [List.getD_eq_getElem?_getD, List.getElem?_eq_getElem (by omega)]; rfl
theorem At.skipC {W : World} {S B : Nat} {ps : List (Bool × Value)} {zs : List Int} (h : Mat W S ps zs) (hB : ¬ B = S) {t : Nat} (ht : t < ps.length) (u v : Value) : ((W.setCell ⟨B, 0, none⟩ u).setCell ⟨B, 1, none⟩ v).cell? ⟨S, t * 2, none⟩ = some (.bool ps[t].1) ∧ ((W.setCell ⟨B, 0, none⟩ u).setCell ⟨B, 1, none⟩ v).cell? ⟨S, t * 2 + 1, none⟩ = some ps[t].2 := by
  obtain ⟨⟨c0, c1⟩, _⟩ := h.cell ht
  have hB' : ¬ S = B := fun e => hB e.symm
  exact ⟨by simp [go_sem, c0], by simp [go_sem, c1]⟩
theorem mat4 {W : World} {S B : Nat} {ps : List (Bool × Value)} {zs : List Int} (h : Mat W S ps zs) (hB : ¬ B = S) {a b c d : Nat} (ha : a < ps.length) (hb : b < ps.length) (hc : c < ps.length) (hd : d < ps.length) (u v : Value) : (((W.setCell ⟨B, 0, none⟩ u).setCell ⟨B, 1, none⟩ v).cell? ⟨S, a * 2, none⟩ = some (.bool ps[a].1) ∧ ((W.setCell ⟨B, 0, none⟩ u).setCell ⟨B, 1, none⟩ v).cell? ⟨S, a * 2 + 1, none⟩ = some ps[a].2) ∧ (((W.setCell ⟨B, 0, none⟩ u).setCell ⟨B, 1, none⟩ v).cell? ⟨S, b * 2, none⟩ = some (.bool ps[b].1) ∧ ((W.setCell ⟨B, 0, none⟩ u).setCell ⟨B, 1, none⟩ v).cell? ⟨S, b * 2 + 1, none⟩ = some ps[b].2) ∧ (((W.setCell ⟨B, 0, none⟩ u).setCell ⟨B, 1, none⟩ v).cell? ⟨S, c * 2, none⟩ = some (.bool ps[c].1) ∧ ((W.setCell ⟨B, 0, none⟩ u).setCell ⟨B, 1, none⟩ v).cell? ⟨S, c * 2 + 1, none⟩ = some ps[c].2) ∧ ((W.setCell ⟨B, 0, none⟩ u).setCell ⟨B, 1, none⟩ v).cell? ⟨S, d * 2, none⟩ = some (.bool ps[d].1) ∧ ((W.setCell ⟨B, 0, none⟩ u).setCell ⟨B, 1, none⟩ v).cell? ⟨S, d * 2 + 1, none⟩ = some ps[d].2 := ⟨At.skipC h hB ha u v, At.skipC h hB hb u v, At.skipC h hB hc u v, At.skipC h hB hd u v⟩
set_option maxRecDepth 8000 in
set_option maxHeartbeats 16000000 in
theorem crossed_any (a b : Nat) (ha : a < 3) (hb : b < 3) (ps : List (Bool × Value)) (zs : List Int) (w : World) (hp : ps.length = 9) (hz : zs.length = 9) (hN : ∀ t (h : t < ps.length) (h' : t < zs.length), Nm w ps[t].1 ps[t].2 zs[t]) (hB : ∀ t, t < 9 → (zs.getD t 0).natAbs < 2 ^ 116) : Calls Tryd.prog 24 #[.agg (pc ps).toArray, .int .i64 (a : Int), .int .i64 (b : Int)] w fun e w' => ∃ o t, e = .returned (.agg #[.bool o, t]) ∧ Nm w' o t (crs zs a b) ∧ Gr w w' ∧ w.heap.size < w'.heap.size := by
  obtain ⟨t2, ht2⟩ : ∃ t, t = 3 + b := ⟨_, rfl⟩
  obtain ⟨t3, ht3⟩ : ∃ t, t = 3 + a := ⟨_, rfl⟩
  have p0 : a < ps.length := by omega
  have p1 : b < ps.length := by omega
  have p2 : t2 < ps.length := by omega
  have p3 : t3 < ps.length := by omega
  have g0 := getD9 hz (t := a) (by omega)
  have g1 := getD9 hz (t := b) (by omega)
  have g2 := getD9 hz (t := t2) (by omega)
  have g3 := getD9 hz (t := t3) (by omega)
  have MA : Mat (w.alloc (.cells (pc ps).toArray 71)) w.heap.size ps zs := ⟨At.row w (pc ps) _, hp, hz, fun t h h' => (hN t h h').below ((Below.refl _ _).alloc (Nat.le_refl _) _)⟩
  have N0 := MA.nm a p0 (by omega)
  have N1 := MA.nm b p1 (by omega)
  have N2 := MA.nm t2 p2 (by omega)
  have N3 := MA.nm t3 p3 (by omega)
  rw [← g0] at N0
  rw [← g1] at N1
  rw [← g2] at N2
  rw [← g3] at N3
  have l0 := hB a (by omega)
  have l1 := hB b (by omega)
  have l2 := hB t2 (by omega)
  have l3 := hB t3 (by omega)
  unfold crs
  rw [← ht2, ← ht3]
  generalize zs.getD a 0 = za at *
  generalize zs.getD b 0 = zb at *
  generalize zs.getD t2 0 = zd at *
  generalize zs.getD t3 0 = zc at *
  have b0 : Bw za := bw_lt l0 (by decide)
  have b1 : Bw zb := bw_lt l1 (by decide)
  have b2 : Bw zd := bw_lt l2 (by decide)
  have b3 : Bw zc := bw_lt l3 (by decide)
  have b4 : Bw (za * zd) := bw_lt (bw_mul l0 l2) (by decide)
  have b5 : Bw (zb * zc) := bw_lt (bw_mul l1 l3) (by decide)
  clear g0 g1 g2 g3 l0 l1 l2 l3 hB hN hz
  have i0 : ∀ w', (Instr.indexAt 71 (.pointer (some ⟨w.heap.size, 0, none⟩)) (.int .i64 0)).run Tryd.prog w' = .ok (.pointer (some ⟨w.heap.size, 0, none⟩)) w' := fun w' => ixA w.heap.size 0 (by decide) w'
  have i1 : ∀ w', (Instr.indexAt 71 (.pointer (some ⟨w.heap.size, 0, none⟩)) (.int .i64 1)).run Tryd.prog w' = .ok (.pointer (some ⟨w.heap.size, 6, none⟩)) w' := fun w' => ixA w.heap.size 1 (by decide) w'
  have j0 : ∀ w', (Instr.indexAt 69 (.pointer (some ⟨w.heap.size, 0, none⟩)) (.int .i64 (a : Int))).run Tryd.prog w' = .ok (.pointer (some ⟨w.heap.size, a * 2, none⟩)) w' := fun w' => by
    have := ixB w.heap.size 0 a ha w'; rwa [Nat.zero_add] at this
  have j1 : ∀ w', (Instr.indexAt 69 (.pointer (some ⟨w.heap.size, 0, none⟩)) (.int .i64 (b : Int))).run Tryd.prog w' = .ok (.pointer (some ⟨w.heap.size, b * 2, none⟩)) w' := fun w' => by
    have := ixB w.heap.size 0 b hb w'; rwa [Nat.zero_add] at this
  have j2 : ∀ w', (Instr.indexAt 69 (.pointer (some ⟨w.heap.size, 6, none⟩)) (.int .i64 (b : Int))).run Tryd.prog w' = .ok (.pointer (some ⟨w.heap.size, t2 * 2, none⟩)) w' := fun w' => by
    have := ixB w.heap.size 6 b hb w'; rwa [show 6 + b * 2 = t2 * 2 by omega] at this
  have j3 : ∀ w', (Instr.indexAt 69 (.pointer (some ⟨w.heap.size, 6, none⟩)) (.int .i64 (a : Int))).run Tryd.prog w' = .ok (.pointer (some ⟨w.heap.size, t3 * 2, none⟩)) w' := fun w' => by
    have := ixB w.heap.size 6 a ha w'; rwa [show 6 + a * 2 = t3 * 2 by omega] at this
  have HP9 := hidb hp
  clear ht2 ht3 hp
  go_enter Tryd.func24, Tryd.ntmps24
  go_upto_region 1 with fail
  have RA := At.nx2 (W := w) (.cells (pc ps).toArray 71) (.bool false) (.slice none 0 0) 68
  have HC := ((Gr.refl w).alloc (.cells (pc ps).toArray 71)).alloc (.cells #[.bool false, .slice none 0 0] 68)
  replace MA := MA.alloc (.cells #[.bool false, .slice none 0 0] 68)
  replace N0 := N0.below ((Below.refl _ _).alloc (Nat.le_refl _) (.cells #[.bool false, .slice none 0 0] 68))
  replace N1 := N1.below ((Below.refl _ _).alloc (Nat.le_refl _) (.cells #[.bool false, .slice none 0 0] 68))
  replace N2 := N2.below ((Below.refl _ _).alloc (Nat.le_refl _) (.cells #[.bool false, .slice none 0 0] 68))
  replace N3 := N3.below ((Below.refl _ _).alloc (Nat.le_refl _) (.cells #[.bool false, .slice none 0 0] 68))
  generalize (w.alloc (.cells (pc ps).toArray 71)).alloc (.cells #[.bool false, .slice none 0 0] 68) = w1 at *
  go_region_held (fun w' => (w'.cell? ⟨w.heap.size, a * 2, none⟩ = some (.bool ps[a].1) ∧ w'.cell? ⟨w.heap.size, a * 2 + 1, none⟩ = some ps[a].2) ∧ (w'.cell? ⟨w.heap.size, b * 2, none⟩ = some (.bool ps[b].1) ∧ w'.cell? ⟨w.heap.size, b * 2 + 1, none⟩ = some ps[b].2) ∧ (w'.cell? ⟨w.heap.size, t2 * 2, none⟩ = some (.bool ps[t2].1) ∧ w'.cell? ⟨w.heap.size, t2 * 2 + 1, none⟩ = some ps[t2].2) ∧ w'.cell? ⟨w.heap.size, t3 * 2, none⟩ = some (.bool ps[t3].1) ∧ w'.cell? ⟨w.heap.size, t3 * 2 + 1, none⟩ = some ps[t3].2)
    (first | exact ⟨(MA.cell p0).1, (MA.cell p1).1, (MA.cell p2).1, (MA.cell p3).1⟩ | exact mat4 MA (by omega) p0 p1 p2 p3 _ _)
    ((first
      | (go_at_call 44; refine (timesN (x := ?gx) (y := ?gy) ?gh ?gk ?gl ?gm).mono ?_; (case gh => ((with_reducible repeat' (first | assumption | refine Nm.drew ?_ | refine Nm.step (by assumption) ?_)); done)); (case gk => ((with_reducible repeat' (first | assumption | refine Nm.drew ?_ | refine Nm.step (by assumption) ?_)); done)); (case gl => with_reducible assumption); (case gm => with_reducible assumption); rintro e w3 ⟨o1, t1, rfl, h1, hB1, hs1⟩; clear hs1; (with_reducible first | replace hB1 := undr hB1 | skip); replace HC := Gr.step HC hB1; replace RA := At.below hB1 RA; replace MA := Mat.below hB1 MA)
      | (go_at_call 44; refine (timesN (x := ?kx) (y := ?ky) ?kh ?kk ?kl ?km).mono ?_; (case kh => ((with_reducible repeat' (first | assumption | refine Nm.drew ?_ | refine Nm.step (by assumption) ?_)); done)); (case kk => ((with_reducible repeat' (first | assumption | refine Nm.drew ?_ | refine Nm.step (by assumption) ?_)); done)); (case kl => with_reducible assumption); (case km => with_reducible assumption); rintro e w3 ⟨o1, t1, rfl, h1, hB1, hs1⟩; clear hs1; (with_reducible first | replace hB1 := undr hB1 | skip); replace HC := Gr.step HC hB1; replace RA := At.below hB1 RA; replace MA := Mat.below hB1 MA)
      | (go_at_call 46; refine (lessN (x := ?jx) (y := ?jy) ?jh ?jk ?jl ?jm).mono ?_; (case jh => ((with_reducible repeat' (first | assumption | refine Nm.drew ?_ | refine Nm.step (by assumption) ?_)); done)); (case jk => ((with_reducible repeat' (first | assumption | refine Nm.drew ?_ | refine Nm.step (by assumption) ?_)); done)); (case jl => with_reducible assumption); (case jm => with_reducible assumption); rintro e w3 ⟨o1, t1, rfl, h1, hB1, hs1⟩; clear hs1; (with_reducible first | replace hB1 := undr hB1 | skip); replace HC := Gr.step HC hB1; replace RA := At.below hB1 RA; replace MA := Mat.below hB1 MA; obtain ⟨ad5, L5, cap5, he5⟩ := h1.form; rw [he5] at h1 ⊢; have HT5 := hidb h1; clear h1 he5; obtain ⟨r0, r1⟩ := RA.c2; obtain ⟨f0, f1⟩ := RA.f2)))
  all_goals
    go_wp2
    have hge : w.heap.size ≤ w.heap.size + 1 := by omega
    exact bodyPost_ret (v := .agg #[.bool o1, .slice ad5 L5 cap5]) (by simp [results, Tryd.results24, go_sem, r0, r1]) rfl ⟨_, _, rfl, ⟨HT5.out.1.setS2 RA _, HT5.out.2⟩, (HC.set hge _ _).set hge _ _, by have := RA.lt; simp; omega⟩
end Go.Proofs.YtehkonddgiakaaaDoor
