/-
  mercatorref1.SignedCmp, mercatorref1.CmpOf.
-/
import Derived.Test.YtgjjgicojedefaaDoorSgB
namespace Go.Proofs.YtgjjgicojedefaaDoor
open Go.RowKit BG
attribute [local go_sem ↓] Go.wp_at_zero Go.wp_at_succ

/-- -1, 0, 1. -/
def ci (x y : Int) : Int := if x < y then -1 else if y < x then 1 else 0
theorem Bg.far {w : World} {v : Value} {l : List Nat} {B : Nat} (h : Bg w v l) (hB : ∀ b cap, v = .slice (some ⟨b, 0, none⟩) l.length cap → l ≠ [] → ¬ B = b) (o : Nat) (y : Value) : Bg (w.setCell ⟨B, o, none⟩ y) v l := by
  rcases h with h | ⟨b, cap, h1, h2, h3, h4, h5⟩
  · exact .inl h
  · refine .inr ⟨b, cap, h1, h2, h3, fun i hi => ?_, by simpa using h5⟩
    have hne := hB b cap h1 (by intro e; rw [e] at hi; simp at hi)
    have hne' : ¬ b = B := fun e => hne e.symm
    simp [go_sem, h4 i hi]
theorem s22 {W : World} {B C : Nat} {a b c d : Value} (h : At W B [a, b]) (k : At W C [c, d]) : W.cell? ⟨B, 0, none⟩ = some a ∧ W.cell? ⟨B, 1, none⟩ = some b ∧ W.cell? ⟨C, 0, none⟩ = some c ∧ W.cell? ⟨C, 1, none⟩ = some d := ⟨h.c2.1, h.c2.2, k.c2.1, k.c2.2⟩
theorem len_zero (z : Int) : (((dn z.natAbs).length : Int) == 0) = decide (z = 0) := by
  have h := dn_empty (n := z.natAbs)
  by_cases c : z = 0
  · subst c; rw [show (0 : Int).natAbs = 0 from rfl, dn_zero]; simp
  · have : (dn z.natAbs).length ≠ 0 := fun e => c (by have := h.1 e; omega)
    rw [decide_eq_false c]; simp only [beq_eq_false_iff_ne]; omega
set_option maxRecDepth 4000 in
set_option maxHeartbeats 4000000 in
theorem signedCmp_any {w : World} {m n : Bool} {u v : Value} {x y : Int} (lx : x.natAbs ≤ 4 * lid) (ly : y.natAbs ≤ 4 * lid) (h : Sg w m u x) (k : Sg w n v y) : Calls Tryd.prog 48 #[.agg #[.bool m, u], .agg #[.bool n, v]] w fun e w' => e = .returned (.int .i64 (ci x y)) ∧ Below w.heap.size w w' := by
  have HB := hidb (fun w (k : Sg w n v y) => signedBack_any k)
  have HA := hidb (fun w m' (h : Sg w m u x) (k : Sg w m' v (-y)) => signedAdd_any (w := w) (m := m) (n := m') (u := u) (v := v) (x := x) (y := -y) lx (by rw [Int.natAbs_neg]; exact ly) h k)
  have SH := hidb h
  have SK := hidb k
  clear h k lx ly
  go_enter Tryd.func48, Tryd.ntmps48
  go_upto_region 1 with fail
  go_cut [5] from 6 to 9 (fun s5 wx => ∃ B o t, s5 = .pointer (some ⟨B, 0, none⟩) ∧ At wx B [.bool o, t] ∧ Hid (o = decide (x + -y < 0) ∧ ∃ ad cap, t = .slice ad (dn (x + -y).natAbs).length cap) ∧ Gr w wx)
  case first =>
    have HC := ((Gr.refl w).alloc (.cells #[.bool m, u] 38)).alloc (.cells #[.bool n, v] 38)
    have PA := ((At.new2 w (.bool m) u 38).alloc (.cells #[.bool n, v] 38))
    have QA := (At.nx2 (W := w) (.cells #[.bool m, u] 38) (.bool n) v 38)
    have lt2 : ∀ n : Nat, n < n + 1 + 1 := fun n => by omega
    go_region_held (fun w' => w'.cell? ⟨w.heap.size, 0, none⟩ = some (.bool m) ∧ w'.cell? ⟨w.heap.size, 1, none⟩ = some u ∧ w'.cell? ⟨w.heap.size + 1, 0, none⟩ = some (.bool n) ∧ w'.cell? ⟨w.heap.size + 1, 1, none⟩ = some v)
      ((refine s22 (a := .bool m) (b := u) (c := .bool n) (d := v) ?_ ?_; all_goals ((with_reducible repeat' (first | assumption | exact At.new1 _ _ _ | exact At.new2 _ _ _ _ | exact At.new3 _ _ _ _ _ | exact At.nx1 _ _ _ | exact At.nx2 _ _ _ _ | exact At.nx3 _ _ _ _ _ | exact At.ny1 _ _ _ _ | exact At.ny2 _ _ _ _ _ | exact At.ny3 _ _ _ _ _ _ | exact At.nz1 _ _ _ _ _ | exact At.nz2 _ _ _ _ _ _ | exact At.nz3 _ _ _ _ _ _ _ | exact Has.new1 _ _ _ | exact Has.new2 _ _ _ _ | exact Has.new3 _ _ _ _ _ | exact Has.nx1 _ _ _ | exact Has.nx2 _ _ _ _ | exact Has.nx3 _ _ _ _ _ | exact Has.ny1 _ _ _ _ | exact Has.ny2 _ _ _ _ _ | exact Has.ny3 _ _ _ _ _ _ | exact Has.nz1 _ _ _ _ _ | exact Has.nz2 _ _ _ _ _ _ | exact Has.nz3 _ _ _ _ _ _ _ | refine At.fill1 ?_ _ | refine At.fill2 ?_ _ _ | refine At.fill3 ?_ _ _ _ | refine At.swap ?_ (by first | omega | (simp; omega)) _ _ | refine At.alloc ?_ _ | refine At.drew ?_ | refine At.skip ?_ (by first | omega | (simp; omega)) _ _ | refine At.below (by assumption) ?_ | refine Has.alloc ?_ _ | refine Has.drew ?_ | refine Has.set ?_ _ _ _ | refine Has.below (by assumption) ?_)); done)))
      ((first
        | (go_at_call 56; refine (HB.out _ (SK.out.below (Gr.out (by ((with_reducible repeat' (first | assumption | refine Gr.drew ?_ | refine Gr.alloc ?_ _ | refine Gr.set ?_ (by first | omega | (simp; omega)) _ _ | exact Gr.refl _)); done))))).mono ?_; rintro e w5 ⟨m', rfl, hs, hB5, hs5⟩; have SB5 := hidb hs; clear hs; obtain ⟨hc5, hf5⟩ := mcell hB5; obtain ⟨ha5, hn5, hm5⟩ := bless hs5; (try simp at hs5); have hz5 : w.heap.size + 1 + 1 < w5.heap.size := (by omega); replace HC : Gr w w5 := Gr.step (by ((with_reducible repeat' (first | assumption | refine Gr.drew ?_ | refine Gr.alloc ?_ _ | refine Gr.set ?_ (by first | omega | (simp; omega)) _ _ | exact Gr.refl _)); done)) hB5; replace PA : At w5 w.heap.size [.bool m, u] := At.below hB5 (by ((with_reducible repeat' (first | assumption | exact At.new1 _ _ _ | exact At.new2 _ _ _ _ | exact At.new3 _ _ _ _ _ | exact At.nx1 _ _ _ | exact At.nx2 _ _ _ _ | exact At.nx3 _ _ _ _ _ | exact At.ny1 _ _ _ _ | exact At.ny2 _ _ _ _ _ | exact At.ny3 _ _ _ _ _ _ | exact At.nz1 _ _ _ _ _ | exact At.nz2 _ _ _ _ _ _ | exact At.nz3 _ _ _ _ _ _ _ | exact Has.new1 _ _ _ | exact Has.new2 _ _ _ _ | exact Has.new3 _ _ _ _ _ | exact Has.nx1 _ _ _ | exact Has.nx2 _ _ _ _ | exact Has.nx3 _ _ _ _ _ | exact Has.ny1 _ _ _ _ | exact Has.ny2 _ _ _ _ _ | exact Has.ny3 _ _ _ _ _ _ | exact Has.nz1 _ _ _ _ _ | exact Has.nz2 _ _ _ _ _ _ | exact Has.nz3 _ _ _ _ _ _ _ | refine At.fill1 ?_ _ | refine At.fill2 ?_ _ _ | refine At.fill3 ?_ _ _ _ | refine At.swap ?_ (by first | omega | (simp; omega)) _ _ | refine At.alloc ?_ _ | refine At.drew ?_ | refine At.skip ?_ (by first | omega | (simp; omega)) _ _ | refine At.below (by assumption) ?_ | refine Has.alloc ?_ _ | refine Has.drew ?_ | refine Has.set ?_ _ _ _ | refine Has.below (by assumption) ?_)); done)); replace QA : At w5 (w.heap.size + 1) [.bool n, v] := At.below hB5 (by ((with_reducible repeat' (first | assumption | exact At.new1 _ _ _ | exact At.new2 _ _ _ _ | exact At.new3 _ _ _ _ _ | exact At.nx1 _ _ _ | exact At.nx2 _ _ _ _ | exact At.nx3 _ _ _ _ _ | exact At.ny1 _ _ _ _ | exact At.ny2 _ _ _ _ _ | exact At.ny3 _ _ _ _ _ _ | exact At.nz1 _ _ _ _ _ | exact At.nz2 _ _ _ _ _ _ | exact At.nz3 _ _ _ _ _ _ _ | exact Has.new1 _ _ _ | exact Has.new2 _ _ _ _ | exact Has.new3 _ _ _ _ _ | exact Has.nx1 _ _ _ | exact Has.nx2 _ _ _ _ | exact Has.nx3 _ _ _ _ _ | exact Has.ny1 _ _ _ _ | exact Has.ny2 _ _ _ _ _ | exact Has.ny3 _ _ _ _ _ _ | exact Has.nz1 _ _ _ _ _ | exact Has.nz2 _ _ _ _ _ _ | exact Has.nz3 _ _ _ _ _ _ _ | refine At.fill1 ?_ _ | refine At.fill2 ?_ _ _ | refine At.fill3 ?_ _ _ _ | refine At.swap ?_ (by first | omega | (simp; omega)) _ _ | refine At.alloc ?_ _ | refine At.drew ?_ | refine At.skip ?_ (by first | omega | (simp; omega)) _ _ | refine At.below (by assumption) ?_ | refine Has.alloc ?_ _ | refine Has.drew ?_ | refine Has.set ?_ _ _ _ | refine Has.below (by assumption) ?_)); done)))
        | (go_at_call 55; refine (HA.out _ m' (SH.out.below (Gr.out (by ((with_reducible repeat' (first | assumption | refine Gr.drew ?_ | refine Gr.alloc ?_ _ | refine Gr.set ?_ (by first | omega | (simp; omega)) _ _ | exact Gr.refl _)); done)))) (by first | exact SB5.out | exact SB5.out.below ((Below.refl _ _).alloc (Nat.le_refl _) _))).mono ?_; rintro e w6 ⟨o, t, rfl, hs, hB6, hs6⟩; have SA6 := hidb hs; clear hs; obtain ⟨hc6, hf6⟩ := mcell hB6; obtain ⟨ha6, hn6, hm6⟩ := bless hs6; (try simp at hs6); have hz6 : w5.heap.size < w6.heap.size := (by omega); replace HC : Gr w w6 := Gr.step (by ((with_reducible repeat' (first | assumption | refine Gr.drew ?_ | refine Gr.alloc ?_ _ | refine Gr.set ?_ (by first | omega | (simp; omega)) _ _ | exact Gr.refl _)); done)) hB6; replace PA : At w6 w.heap.size [.bool m, u] := At.below hB6 (by ((with_reducible repeat' (first | assumption | exact At.new1 _ _ _ | exact At.new2 _ _ _ _ | exact At.new3 _ _ _ _ _ | exact At.nx1 _ _ _ | exact At.nx2 _ _ _ _ | exact At.nx3 _ _ _ _ _ | exact At.ny1 _ _ _ _ | exact At.ny2 _ _ _ _ _ | exact At.ny3 _ _ _ _ _ _ | exact At.nz1 _ _ _ _ _ | exact At.nz2 _ _ _ _ _ _ | exact At.nz3 _ _ _ _ _ _ _ | exact Has.new1 _ _ _ | exact Has.new2 _ _ _ _ | exact Has.new3 _ _ _ _ _ | exact Has.nx1 _ _ _ | exact Has.nx2 _ _ _ _ | exact Has.nx3 _ _ _ _ _ | exact Has.ny1 _ _ _ _ | exact Has.ny2 _ _ _ _ _ | exact Has.ny3 _ _ _ _ _ _ | exact Has.nz1 _ _ _ _ _ | exact Has.nz2 _ _ _ _ _ _ | exact Has.nz3 _ _ _ _ _ _ _ | refine At.fill1 ?_ _ | refine At.fill2 ?_ _ _ | refine At.fill3 ?_ _ _ _ | refine At.swap ?_ (by first | omega | (simp; omega)) _ _ | refine At.alloc ?_ _ | refine At.drew ?_ | refine At.skip ?_ (by first | omega | (simp; omega)) _ _ | refine At.below (by assumption) ?_ | refine Has.alloc ?_ _ | refine Has.drew ?_ | refine Has.set ?_ _ _ _ | refine Has.below (by assumption) ?_)); done)); replace QA : At w6 (w.heap.size + 1) [.bool n, v] := At.below hB6 (by ((with_reducible repeat' (first | assumption | exact At.new1 _ _ _ | exact At.new2 _ _ _ _ | exact At.new3 _ _ _ _ _ | exact At.nx1 _ _ _ | exact At.nx2 _ _ _ _ | exact At.nx3 _ _ _ _ _ | exact At.ny1 _ _ _ _ | exact At.ny2 _ _ _ _ _ | exact At.ny3 _ _ _ _ _ _ | exact At.nz1 _ _ _ _ _ | exact At.nz2 _ _ _ _ _ _ | exact At.nz3 _ _ _ _ _ _ _ | exact Has.new1 _ _ _ | exact Has.new2 _ _ _ _ | exact Has.new3 _ _ _ _ _ | exact Has.nx1 _ _ _ | exact Has.nx2 _ _ _ _ | exact Has.nx3 _ _ _ _ _ | exact Has.ny1 _ _ _ _ | exact Has.ny2 _ _ _ _ _ | exact Has.ny3 _ _ _ _ _ _ | exact Has.nz1 _ _ _ _ _ | exact Has.nz2 _ _ _ _ _ _ | exact Has.nz3 _ _ _ _ _ _ _ | refine At.fill1 ?_ _ | refine At.fill2 ?_ _ _ | refine At.fill3 ?_ _ _ _ | refine At.swap ?_ (by first | omega | (simp; omega)) _ _ | refine At.alloc ?_ _ | refine At.drew ?_ | refine At.skip ?_ (by first | omega | (simp; omega)) _ _ | refine At.below (by assumption) ?_ | refine Has.alloc ?_ _ | refine Has.drew ?_ | refine Has.set ?_ _ _ _ | refine Has.below (by assumption) ?_)); done)); obtain ⟨ad, cap, hf⟩ := SA6.out.1.form; rw [hf])))
    all_goals
      go_wp2_with fail
      go_meet
      refine ⟨_, o, .slice ad _ cap, rfl, ?_, (show Hid _ from ⟨SA6.out.2, ad, cap, rfl⟩), ?_⟩
    all_goals first | ((with_reducible repeat' (first | assumption | exact At.new1 _ _ _ | exact At.new2 _ _ _ _ | exact At.new3 _ _ _ _ _ | exact At.nx1 _ _ _ | exact At.nx2 _ _ _ _ | exact At.nx3 _ _ _ _ _ | exact At.ny1 _ _ _ _ | exact At.ny2 _ _ _ _ _ | exact At.ny3 _ _ _ _ _ _ | exact At.nz1 _ _ _ _ _ | exact At.nz2 _ _ _ _ _ _ | exact At.nz3 _ _ _ _ _ _ _ | exact Has.new1 _ _ _ | exact Has.new2 _ _ _ _ | exact Has.new3 _ _ _ _ _ | exact Has.nx1 _ _ _ | exact Has.nx2 _ _ _ _ | exact Has.nx3 _ _ _ _ _ | exact Has.ny1 _ _ _ _ | exact Has.ny2 _ _ _ _ _ | exact Has.ny3 _ _ _ _ _ _ | exact Has.nz1 _ _ _ _ _ | exact Has.nz2 _ _ _ _ _ _ | exact Has.nz3 _ _ _ _ _ _ _ | refine At.fill1 ?_ _ | refine At.fill2 ?_ _ _ | refine At.fill3 ?_ _ _ _ | refine At.swap ?_ (by first | omega | (simp; omega)) _ _ | refine At.alloc ?_ _ | refine At.drew ?_ | refine At.skip ?_ (by first | omega | (simp; omega)) _ _ | refine At.below (by assumption) ?_ | refine Has.alloc ?_ _ | refine Has.drew ?_ | refine Has.set ?_ _ _ _ | refine Has.below (by assumption) ?_)); done) | ((with_reducible repeat' (first | assumption | refine Gr.drew ?_ | refine Gr.alloc ?_ _ | refine Gr.set ?_ (by first | omega | (simp; omega)) _ _ | exact Gr.refl _)); done)
  case rest =>
    obtain ⟨B, o, t, rfl, AB, HE, HC⟩ := hcut
    rw [← Int.sub_eq_add_neg] at HE
    obtain ⟨ad, cap, hf⟩ := HE.out.2
    have HO := hidb HE.out.1
    have HZ := hidb (len_zero (x - y))
    rw [hf] at AB
    obtain ⟨b0, b1⟩ := AB.c2
    clear hf HE
    generalize hL : (dn (x - y).natAbs).length = L at *
    clear hL
    by_cases c : x - y = 0
    · have hz : ((L : Int) == 0) = true := by rw [HZ.out]; simp [c]
      have HV : Hid (ci x y = 0) := by unfold ci Hid; rw [if_neg (by omega), if_neg (by omega)]
      go_wp2
      go_ret
      exact ⟨by rw [HV.out]; rfl, HC⟩
    · have hz : ((L : Int) == 0) = false := by rw [HZ.out]; simp [c]
      by_cases d : x - y < 0
      · have ho : o = true := by rw [HO.out]; simp [d]
        rw [ho] at b0
        have HV : Hid (ci x y = -1) := by unfold ci Hid; rw [if_pos (by omega)]
        go_wp2
        go_ret
        exact ⟨by rw [HV.out]; rfl, HC⟩
      · have ho : o = false := by rw [HO.out]; simp [d]
        rw [ho] at b0
        have HV : Hid (ci x y = 1) := by unfold ci Hid; rw [if_neg (by omega), if_pos (by omega)]
        go_wp2
        go_ret
        exact ⟨by rw [HV.out]; rfl, HC⟩
end Go.Proofs.YtgjjgicojedefaaDoor
