/-
  mercatorref5: Common, AreaOf.
-/
import Derived.Test.YtnadgoomkaldkaaDoorQTk
import Derived.Test.YtnadgoomkaldkaaDoorQSrA
namespace Go.Proofs.YtnadgoomkaldkaaDoor
open Go.RowKit
attribute [local go_sem ↓] Go.wp_at_zero Go.wp_at_succ

theorem own_sslb {w : World} {base : Nat} {v : Value} {n : Nat} {l : List Sp} (h : w.ownsRow base 52 2 v n (sr l)) (hn : l.length = n) : ∃ ad b cap, v = .slice ad l.length cap ∧ SSl w ad b 0 cap l ∧ (0 < l.length → base ≤ b) := by
  have hlt := h.lt
  subst hn
  obtain ⟨h1, h | ⟨g, cap, cur, hv, hb, hg, hc, hm, hs, ht⟩⟩ := h
  · obtain ⟨rfl, h0⟩ := h
    exact ⟨none, 0, 0, by rw [h0], ⟨fun j hj => by omega, fun j hj => by omega⟩, fun hj => by omega⟩
  · subst hv
    refine ⟨_, g, cap, rfl, ⟨fun j hj => ?_, fun j hj w => sindex g 0 _ cap j hj w⟩, fun _ => hb⟩
    have key : ∀ i, (hi : i < 2) → w.cell? ⟨g, 0 + j * 2 + i, none⟩ = (sc (sx l j))[i]? := by
      intro i hi
      have e1 : (cur.toList.take (l.length * 2))[j * 2 + i]? = (sr l)[j * 2 + i]? := by rw [ht]
      rw [List.getElem?_take, if_pos (by omega), sr_at l j hj i hi] at e1
      simp [World.cell?, hg]
      simpa using e1
    exact ⟨⟨key 0 (by decide), key 1 (by decide)⟩, (hlt g rfl).2⟩
/-- What Common has in memory. -/
structure CM (w W : World) (base : Nat) (p q r s : Sp) (v : Value) (L : List Sp) : Prop where
  p : At W w.heap.size (sc p)
  q : At W (w.heap.size + 1) (sc q)
  r : At W (w.heap.size + 1 + 1) (sc r)
  s : At W (w.heap.size + 1 + 1 + 1) (sc s)
  z : At W (w.heap.size + 1 + 1 + 1 + 1) (sc (0, 0))
  row : W.ownsRow base 52 2 v L.length (sr L)
  gr : Gr w W
  lt : w.heap.size + 4 < base ∧ base ≤ W.heap.size
theorem At.belowB {W w' : World} {B base : Nat} {l : List Value} (hB : Below base W w') (h : At W B l) (hb : B < base) : At w' B l :=
  ⟨fun i hi => ⟨(hB.cell (p := ⟨B, i, none⟩) hb).trans (h.1 i hi).1, (hB.frozen (p := ⟨B, i, none⟩) hb).trans (h.1 i hi).2⟩, Nat.lt_of_lt_of_le h.2 hB.size⟩
section
variable {w W : World} {base : Nat} {p q r s : Sp} {v : Value} {L : List Sp}
theorem CM.below {w' : World} (h : CM w W base p q r s v L) (hB : Below W.heap.size W w') : CM w w' base p q r s v L :=
  ⟨At.below hB h.p, At.below hB h.q, At.below hB h.r, At.below hB h.s, At.below hB h.z, own_kp h.row hB, Gr.step h.gr hB, h.lt.1, Nat.le_trans h.lt.2 hB.size⟩
theorem CM.drew (h : CM w W base p q r s v L) : CM w W.drew base p q r s v L := ⟨h.p.drew, h.q.drew, h.r.drew, h.s.drew, h.z.drew, h.row.drew, h.gr.drew, h.lt⟩
theorem CM.step {w' : World} {v' : Value} {L' : List Sp} (h : CM w W base p q r s v L) (hB : Below base W w') (hr : w'.ownsRow base 52 2 v' L'.length (sr L')) : CM w w' base p q r s v' L' :=
  have l := h.lt
  ⟨At.belowB hB h.p (by omega), At.belowB hB h.q (by omega), At.belowB hB h.r (by omega), At.belowB hB h.s (by omega), At.belowB hB h.z (by omega), hr, Below.trans h.gr (hB.mono (by omega)), h.lt.1, Nat.le_trans h.lt.2 hB.size⟩
theorem CM.four (h : CM w W base p q r s v L) : (W.cell? ⟨w.heap.size, 0, none⟩ = some (.int .i64 p.1) ∧ W.cell? ⟨w.heap.size, 1, none⟩ = some (.int .i64 p.2)) ∧ (W.cell? ⟨w.heap.size + 1, 0, none⟩ = some (.int .i64 q.1) ∧ W.cell? ⟨w.heap.size + 1, 1, none⟩ = some (.int .i64 q.2)) ∧ (W.cell? ⟨w.heap.size + 1 + 1, 0, none⟩ = some (.int .i64 r.1) ∧ W.cell? ⟨w.heap.size + 1 + 1, 1, none⟩ = some (.int .i64 r.2)) ∧ W.cell? ⟨w.heap.size + 1 + 1 + 1, 0, none⟩ = some (.int .i64 s.1) ∧ W.cell? ⟨w.heap.size + 1 + 1 + 1, 1, none⟩ = some (.int .i64 s.2) := ⟨h.p.c2, h.q.c2, h.r.c2, h.s.c2⟩
end
/-- The common points that are ends. -/
def cm1 (p q r _s : Sp) : List Sp := if hsP (p, q) r then wthL [] r else []
def cm2 (p q r s : Sp) : List Sp := if hsP (p, q) s then wthL (cm1 p q r s) s else cm1 p q r s
def cm3 (p q r s : Sp) : List Sp := if hsP (r, s) p then wthL (cm2 p q r s) p else cm2 p q r s
def cm4 (p q r s : Sp) : List Sp := if hsP (r, s) q then wthL (cm3 p q r s) q else cm3 p q r s
/-- Do they cross? -/
def crX (p q r s : Sp) : Prop := sg (tn p q r) * sg (tn p q s) < 0 ∧ sg (tn r s p) * sg (tn r s q) < 0
instance (p q r s : Sp) : Decidable (crX p q r s) := by unfold crX; exact inferInstance
/-- How many points two pieces have in common, and which one. -/
def cmN (p q r s : Sp) : Nat := if 1 < (cm4 p q r s).length then 2 else if (cm4 p q r s).length = 1 then 1 else if crX p q r s then 2 else 0
def cmA (p q r s : Sp) : Sp := if (cm4 p q r s).length = 1 then sx (cm4 p q r s) 0 else (0, 0)
theorem cm_len (p q r s : Sp) : (cm1 p q r s).length ≤ 1 ∧ (cm2 p q r s).length ≤ 2 ∧ (cm3 p q r s).length ≤ 3 ∧ (cm4 p q r s).length ≤ 4 := by
  have h1 : (cm1 p q r s).length ≤ 1 := by unfold cm1; split; exact wth_len [] r; simp
  have h2 : (cm2 p q r s).length ≤ 2 := by unfold cm2; split; exact Nat.le_trans (wth_len _ s) (by omega); omega
  have h3 : (cm3 p q r s).length ≤ 3 := by unfold cm3; split; exact Nat.le_trans (wth_len _ p) (by omega); omega
  exact ⟨h1, h2, h3, by unfold cm4; split; exact Nat.le_trans (wth_len _ q) (by omega); omega⟩
set_option maxRecDepth 4000 in
set_option maxHeartbeats 16000000 in
theorem common_any {p q r s : Sp} (hp : okS p) (hq : okS q) (hr : okS r) (hs : okS s) (w : World) : Calls Tryd.prog 38 #[sv p, sv q, sv r, sv s] w fun e w' => e = .returned (.tuple #[.int .i64 (cmN p q r s : Int), sv (cmA p q r s)]) ∧ Gr w w' := by
  have OA := hidb (fun w => onPiece_any hp hq hr w)
  have OB := hidb (fun w => onPiece_any hp hq hs w)
  have OC := hidb (fun w => onPiece_any hr hs hp w)
  have OD := hidb (fun w => onPiece_any hr hs hq w)
  have T1 := hidb (fun w => turnOf_any hp hq hr w)
  have T2 := hidb (fun w => turnOf_any hp hq hs w)
  have T3 := hidb (fun w => turnOf_any hr hs hp w)
  have T4 := hidb (fun w => turnOf_any hr hs hq w)
  generalize hN : (cmN p q r s : Int) = cN
  generalize hA : cmA p q r s = cA
  have HL := hidb (cm_len p q r s)
  have HN2 : Hid (1 < (cm4 p q r s).length → cN = 2 ∧ cA = (0, 0)) := fun h => by rw [← hN, ← hA]; unfold cmN cmA; rw [if_pos h, if_neg (by omega)]; exact ⟨rfl, rfl⟩
  have HN1 : Hid ((cm4 p q r s).length = 1 → cN = 1 ∧ cA = sx (cm4 p q r s) 0) := fun h => by rw [← hN, ← hA]; unfold cmN cmA; rw [if_neg (by omega), if_pos h, if_pos h]; exact ⟨rfl, rfl⟩
  have HNx : Hid ((cm4 p q r s).length = 0 → crX p q r s → cN = 2 ∧ cA = (0, 0)) := fun h k => by rw [← hN, ← hA]; unfold cmN cmA; rw [if_neg (by omega), if_neg (by omega), if_pos k, if_neg (by omega)]; exact ⟨rfl, rfl⟩
  have HN0 : Hid ((cm4 p q r s).length = 0 → ¬ crX p q r s → cN = 0 ∧ cA = (0, 0)) := fun h k => by rw [← hN, ← hA]; unfold cmN cmA; rw [if_neg (by omega), if_neg (by omega), if_neg k, if_neg (by omega)]; exact ⟨rfl, rfl⟩
  have HX1 : Hid (sg (tn p q r) * sg (tn p q s) < 0 → sg (tn r s p) * sg (tn r s q) < 0 → crX p q r s) := fun a b => ⟨a, b⟩
  have HX2 : Hid (¬ sg (tn p q r) * sg (tn p q s) < 0 → ¬ crX p q r s) := fun a b => a b.1
  have HX3 : Hid (¬ sg (tn r s p) * sg (tn r s q) < 0 → ¬ crX p q r s) := fun a b => a b.2
  have HD1 : Hid ((decide (hsP (p, q) r) = true → cm1 p q r s = wthL [] r) ∧ (decide (hsP (p, q) r) = false → cm1 p q r s = [])) := ⟨fun h => if_pos (of_decide_eq_true h), fun h => if_neg (of_decide_eq_false h)⟩
  have HD2 : Hid ((decide (hsP (p, q) s) = true → cm2 p q r s = wthL (cm1 p q r s) s) ∧ (decide (hsP (p, q) s) = false → cm2 p q r s = cm1 p q r s)) := ⟨fun h => if_pos (of_decide_eq_true h), fun h => if_neg (of_decide_eq_false h)⟩
  have HD3 : Hid ((decide (hsP (r, s) p) = true → cm3 p q r s = wthL (cm2 p q r s) p) ∧ (decide (hsP (r, s) p) = false → cm3 p q r s = cm2 p q r s)) := ⟨fun h => if_pos (of_decide_eq_true h), fun h => if_neg (of_decide_eq_false h)⟩
  have HD4 : Hid ((decide (hsP (r, s) q) = true → cm4 p q r s = wthL (cm3 p q r s) q) ∧ (decide (hsP (r, s) q) = false → cm4 p q r s = cm3 p q r s)) := ⟨fun h => if_pos (of_decide_eq_true h), fun h => if_neg (of_decide_eq_false h)⟩
  have g1 := sg_one (tn p q r)
  have g2 := sg_one (tn p q s)
  have g3 := sg_one (tn r s p)
  have g4 := sg_one (tn r s q)
  clear hN hA hp hq hr hs
  generalize cm1 p q r s = L1 at *
  generalize cm2 p q r s = L2 at *
  generalize cm3 p q r s = L3 at *
  generalize cm4 p q r s = L4 at *
  generalize decide (hsP (p, q) r) = bA at *
  generalize decide (hsP (p, q) s) = bB at *
  generalize decide (hsP (r, s) p) = bC at *
  generalize decide (hsP (r, s) q) = bD at *
  generalize tn p q r = t1 at *
  generalize tn p q s = t2 at *
  generalize tn r s p = t3 at *
  generalize tn r s q = t4 at *
  have wa : IntKind.i64.wrap (sg t1 * sg t2) = sg t1 * sg t2 := by rcases g1 with e | e | e <;> rcases g2 with f | f | f <;> rw [e, f] <;> rfl
  have wb : IntKind.i64.wrap (sg t3 * sg t4) = sg t3 * sg t4 := by rcases g3 with e | e | e <;> rcases g4 with f | f | f <;> rw [e, f] <;> rfl
  obtain ⟨m1, hm1⟩ : ∃ m, m = sg t1 * sg t2 := ⟨_, rfl⟩
  obtain ⟨m2, hm2⟩ : ∃ m, m = sg t3 * sg t4 := ⟨_, rfl⟩
  replace wa : IntKind.i64.wrap (sg t1 * sg t2) = m1 := by rw [wa, hm1]
  replace wb : IntKind.i64.wrap (sg t3 * sg t4) = m2 := by rw [wb, hm2]
  rw [← hm1] at HX1 HX2
  rw [← hm2] at HX1 HX3
  have HWa := hidb wa
  have HWb := hidb wb
  clear hm1 hm2 g1 g2 g3 g4 wa wb
  have E : CM w (((((w.alloc (.cells #[.int .i64 p.1, .int .i64 p.2] 52)).alloc (.cells #[.int .i64 q.1, .int .i64 q.2] 52)).alloc (.cells #[.int .i64 r.1, .int .i64 r.2] 52)).alloc (.cells #[.int .i64 s.1, .int .i64 s.2] 52)).alloc (.cells #[.int .i64 0, .int .i64 0] 52)) (w.heap.size + 1 + 1 + 1 + 1 + 1) p q r s (.slice none 0 0) [] :=
    ⟨((((At.new2 _ _ _ _).alloc _).alloc _).alloc _).alloc _, (((At.nx2 _ _ _ _).alloc _).alloc _).alloc _, ((At.ny2 _ _ _ _ _).alloc _).alloc _, (At.nz2 _ _ _ _ _ _).alloc _, At.at2 (by simp) _ _ _, World.ownsRow_nil _ _ _ _, (((((Gr.refl w).alloc _).alloc _).alloc _).alloc _).alloc _, by omega, by simp⟩
  go_enter Tryd.func38, Tryd.ntmps38
  go_upto_region 2 with fail
  generalize ((((w.alloc (.cells #[.int .i64 p.1, .int .i64 p.2] 52)).alloc (.cells #[.int .i64 q.1, .int .i64 q.2] 52)).alloc (.cells #[.int .i64 r.1, .int .i64 r.2] 52)).alloc (.cells #[.int .i64 s.1, .int .i64 s.2] 52)).alloc (.cells #[.int .i64 0, .int .i64 0] 52) = W1 at *
  obtain ⟨base, hbase⟩ : ∃ base, base = w.heap.size + 1 + 1 + 1 + 1 + 1 := ⟨_, rfl⟩
  rw [← hbase] at E
  clear hbase
  obtain ⟨⟨a0, a1⟩, ⟨b0, b1⟩, ⟨c0, c1⟩, d0, d1⟩ := E.four
  go_wp2_with fail
  refine (OA.out _).mono ?_
  rintro e w2 ⟨rfl, hB⟩
  replace E := E.below hB.out
  clear a0 a1 b0 b1 c0 c1 d0 d1 hB
  obtain ⟨⟨a0, a1⟩, ⟨b0, b1⟩, ⟨c0, c1⟩, d0, d1⟩ := E.four
  go_wp2_with fail
  refine (OB.out _).mono ?_
  rintro e w3 ⟨rfl, hB⟩
  replace E := E.below hB.out
  clear a0 a1 b0 b1 c0 c1 d0 d1 hB
  obtain ⟨⟨a0, a1⟩, ⟨b0, b1⟩, ⟨c0, c1⟩, d0, d1⟩ := E.four
  go_wp2_with fail
  refine (OC.out _).mono ?_
  rintro e w4 ⟨rfl, hB⟩
  replace E := E.below hB.out
  clear a0 a1 b0 b1 c0 c1 d0 d1 hB
  obtain ⟨⟨a0, a1⟩, ⟨b0, b1⟩, ⟨c0, c1⟩, d0, d1⟩ := E.four
  go_wp2_with fail
  refine (OD.out _).mono ?_
  rintro e w5 ⟨rfl, hB⟩
  replace E := E.below hB.out
  clear a0 a1 b0 b1 c0 c1 d0 d1 hB
  have HE := hidb E
  clear E
  go_upto_if 33 with fail
  go_cut [10] from 33 (fun v wx => CM w wx base p q r s v L1)
  case first =>
    obtain ⟨adx, capx, hvx⟩ := own_sh HE.out.row
    (try cases hvx)
    (try subst hvx)
    cases bA
    · obtain rfl := HD1.out.2 rfl
      go_wp2_with fail
      go_meet
      exact HE.out
    · obtain rfl := HD1.out.1 rfl
      obtain ⟨⟨a0, a1⟩, ⟨b0, b1⟩, ⟨c0, c1⟩, d0, d1⟩ := HE.out.four
      have HW := hidb (with_any r rfl (by have := HL.out; first | omega | (simp; done) | (simp; omega)) _ HE.out.row HE.out.lt.2)
      go_wp2_with fail
      refine HW.out.mono ?_
      rintro e w9 ⟨ad9, cap9, rfl, hown, hB⟩
      have HE2 := hidb (HE.out.step hB hown)
      clear hown hB a0 a1 b0 b1 c0 c1 d0 d1
      go_wp2_with fail
      go_meet
      exact HE2.out
  case rest =>
  clear HE
  have E := hcut
  clear hcut
  have HE := hidb E
  clear E
  go_upto_if 37 with fail
  go_cut [10] from 37 (fun v wx => CM w wx base p q r s v L2)
  case first =>
    obtain ⟨adx, capx, hvx⟩ := own_sh HE.out.row
    (try cases hvx)
    (try subst hvx)
    cases bB
    · obtain rfl := HD2.out.2 rfl
      go_wp2_with fail
      go_meet
      exact HE.out
    · obtain rfl := HD2.out.1 rfl
      obtain ⟨⟨a0, a1⟩, ⟨b0, b1⟩, ⟨c0, c1⟩, d0, d1⟩ := HE.out.four
      have HW := hidb (with_any s rfl (by have := HL.out; first | omega | (simp; done) | (simp; omega)) _ HE.out.row HE.out.lt.2)
      go_wp2_with fail
      refine HW.out.mono ?_
      rintro e w9 ⟨ad9, cap9, rfl, hown, hB⟩
      have HE2 := hidb (HE.out.step hB hown)
      clear hown hB a0 a1 b0 b1 c0 c1 d0 d1
      go_wp2_with fail
      go_meet
      exact HE2.out
  case rest =>
  clear HE
  have E := hcut
  clear hcut
  have HE := hidb E
  clear E
  go_upto_if 41 with fail
  go_cut [10] from 41 (fun v wx => CM w wx base p q r s v L3)
  case first =>
    obtain ⟨adx, capx, hvx⟩ := own_sh HE.out.row
    (try cases hvx)
    (try subst hvx)
    cases bC
    · obtain rfl := HD3.out.2 rfl
      go_wp2_with fail
      go_meet
      exact HE.out
    · obtain rfl := HD3.out.1 rfl
      obtain ⟨⟨a0, a1⟩, ⟨b0, b1⟩, ⟨c0, c1⟩, d0, d1⟩ := HE.out.four
      have HW := hidb (with_any p rfl (by have := HL.out; first | omega | (simp; done) | (simp; omega)) _ HE.out.row HE.out.lt.2)
      go_wp2_with fail
      refine HW.out.mono ?_
      rintro e w9 ⟨ad9, cap9, rfl, hown, hB⟩
      have HE2 := hidb (HE.out.step hB hown)
      clear hown hB a0 a1 b0 b1 c0 c1 d0 d1
      go_wp2_with fail
      go_meet
      exact HE2.out
  case rest =>
  clear HE
  have E := hcut
  clear hcut
  have HE := hidb E
  clear E
  go_upto_if 45 with fail
  go_cut [10] from 45 (fun v wx => CM w wx base p q r s v L4)
  case first =>
    obtain ⟨adx, capx, hvx⟩ := own_sh HE.out.row
    (try cases hvx)
    (try subst hvx)
    cases bD
    · obtain rfl := HD4.out.2 rfl
      go_wp2_with fail
      go_meet
      exact HE.out
    · obtain rfl := HD4.out.1 rfl
      obtain ⟨⟨a0, a1⟩, ⟨b0, b1⟩, ⟨c0, c1⟩, d0, d1⟩ := HE.out.four
      have HW := hidb (with_any q rfl (by have := HL.out; first | omega | (simp; done) | (simp; omega)) _ HE.out.row HE.out.lt.2)
      go_wp2_with fail
      refine HW.out.mono ?_
      rintro e w9 ⟨ad9, cap9, rfl, hown, hB⟩
      have HE2 := hidb (HE.out.step hB hown)
      clear hown hB a0 a1 b0 b1 c0 c1 d0 d1
      go_wp2_with fail
      go_meet
      exact HE2.out
  case rest =>
  clear HE
  have E := hcut
  clear hcut
  obtain ⟨ad4, cap4, rfl⟩ := own_sh E.row
  by_cases k1 : 1 < L4.length
  · obtain ⟨rfl, rfl⟩ := HN2.out k1
    have k1' : (1 : Int) < (L4.length : Int) := by omega
    clear k1
    obtain ⟨z0, z1⟩ := E.z.c2
    obtain ⟨f0, f1⟩ := E.z.f2
    have HE := hidb E
    clear E
    go_wp2_with fail
    refine bodyPost_ret (v := .tuple #[.int .i64 2, sv (0, 0)]) (by simp [results, Tryd.results38, go_sem, z0, z1]) rfl ⟨rfl, ?_⟩
    exact (HE.out.gr.set (c := w.heap.size + 1 + 1 + 1 + 1) (by omega) 0 (.int .i64 0)).set (c := w.heap.size + 1 + 1 + 1 + 1) (by omega) 1 (.int .i64 0)
  · have k1' : ¬ (1 : Int) < (L4.length : Int) := by omega
    by_cases k2 : L4.length = 1
    · obtain ⟨rfl, hcA⟩ := HN1.out k2
      have k2' : (L4.length : Int) = 1 := by omega
      obtain ⟨ad5, b5, cap5, hv, hS, hbb⟩ := own_sslb E.row rfl
      cases hv
      replace hbb := hbb (by omega)
      obtain ⟨⟨c0, c1⟩, cb⟩ := hS.row 0 (by omega)
      have ix := hS.ix 0 (by omega)
      simp only [Nat.zero_mul, Nat.add_zero, Nat.zero_add] at c0 c1 ix
      push_cast at ix
      obtain ⟨z0, z1⟩ := E.z.c2
      obtain ⟨f0, f1⟩ := E.z.f2
      have n1 : ¬ b5 = w.heap.size + 1 + 1 + 1 + 1 := by have := E.lt; omega
      have n2 : ¬ w.heap.size + 1 + 1 + 1 + 1 = b5 := fun e => n1 e.symm
      have HE := hidb E
      obtain ⟨x1, x2⟩ := cA
      rw [← hcA] at c0 c1
      dsimp only at c0 c1
      clear hcA
      have hgr := E.gr
      clear E hS hbb k1 k2
      go_upto_region 17 with fail
      go_region_law (fail)
      all_goals
        go_wp2_with fail
        refine bodyPost_ret (v := .tuple #[.int .i64 1, sv (x1, x2)]) (by simp [results, Tryd.results38, go_sem, z0, z1]) rfl ⟨rfl, ?_⟩
        ((with_reducible repeat' (first | assumption | refine Gr.drew ?_ | refine Gr.alloc ?_ _ | refine Gr.set ?_ (by first | omega | (simp; omega)) _ _ | exact Gr.refl _)); done)
    · have k0 : L4.length = 0 := by omega
      have k2' : ¬ (L4.length : Int) = 1 := by omega
      clear k1 k2
      go_upto_region 18 with fail
      have wa := HWa.out
      have wb := HWb.out
      refine wp_region_held_drew (S := (fun w' => (w'.cell? ⟨w.heap.size, 0, none⟩ = some (.int .i64 p.1) ∧ w'.cell? ⟨w.heap.size, 1, none⟩ = some (.int .i64 p.2)) ∧ (w'.cell? ⟨w.heap.size + 1, 0, none⟩ = some (.int .i64 q.1) ∧ w'.cell? ⟨w.heap.size + 1, 1, none⟩ = some (.int .i64 q.2)) ∧ (w'.cell? ⟨w.heap.size + 1 + 1, 0, none⟩ = some (.int .i64 r.1) ∧ w'.cell? ⟨w.heap.size + 1 + 1, 1, none⟩ = some (.int .i64 r.2)) ∧ w'.cell? ⟨w.heap.size + 1 + 1 + 1, 0, none⟩ = some (.int .i64 s.1) ∧ w'.cell? ⟨w.heap.size + 1 + 1 + 1, 1, none⟩ = some (.int .i64 s.2))) (by kernel_rfl) ?_ (fun hHeld => ?_)
      · (try dsimp only); (with_reducible first | exact E.four | exact E.drew.four)
      refine wt (i := 0) (v := ?vt1q0x2) rfl ?ht1q0x2 ?rt1q0x2
      case ht1q0x2 => (intro w hSw; (try dsimp only at hSw); go_simp; try with_reducible rfl)
      (try simp only [Act.put, lq1, lq2, lq4, lq5, lq6])
      refine wt (i := 1) (v := ?vt1q1x5) rfl ?ht1q1x5 ?rt1q1x5
      case ht1q1x5 => (intro w hSw; (try dsimp only at hSw); go_simp; try with_reducible rfl)
      (try simp only [Act.put, lq1, lq2, lq3, lq4, lq5, lq6])
      refine wt (i := 2) (v := ?vt1q2x8) rfl ?ht1q2x8 ?rt1q2x8
      case ht1q2x8 => (intro w hSw; (try dsimp only at hSw); go_simp; try with_reducible rfl)
      (try simp only [Act.put, lq1, lq2, lq3, lq4, lq5, lq6])
      refine wt (i := 5) (v := ?vt1q5x11) rfl ?ht1q5x11 ?rt1q5x11
      case ht1q5x11 => (intro w hSw; (try dsimp only at hSw); go_simp; try with_reducible rfl)
      (try simp only [Act.put, lq1, lq2, lq3, lq4, lq5, lq6])
      refine wt (i := 6) (v := ?vt1q6x14) rfl ?ht1q6x14 ?rt1q6x14
      case ht1q6x14 => (intro w hSw; (try dsimp only at hSw); go_simp; try with_reducible rfl)
      (try simp only [Act.put, lq1, lq2, lq3, lq4, lq5, lq6])
      refine wt (i := 7) (v := ?vt1q7x17) rfl ?ht1q7x17 ?rt1q7x17
      case ht1q7x17 => (intro w hSw; (try dsimp only at hSw); go_simp; try with_reducible rfl)
      (try simp only [Act.put, lq1, lq2, lq3, lq4, lq5, lq6])
      refine wpAnyH_ready (rs := [3]) (by kernel_rfl) (by simp) ?_
      refine AllReadyH.cons rfl (fun K hK => ?_) AllReadyH.nil
      go_simp
      go_wp2_with ((go_at_call 32; refine (T1.out _).mono ?_; rintro e w9 ⟨rfl, hB⟩))
      replace hB := hB.out
      (with_reducible first | replace hB := undr hB | skip)
      replace E := E.below hB
      clear hB
      refine hK.out _ _ ?_ (fun hHeld => ?_)
      · (try dsimp only); (with_reducible first | exact E.four | exact E.drew.four)
      clear hK K
      refine wpAnyH_ready (rs := [4]) (by kernel_rfl) (by simp) ?_
      refine AllReadyH.cons rfl (fun K hK => ?_) AllReadyH.nil
      go_simp
      go_wp2_with ((go_at_call 54; refine (signOf_any _ _).mono ?_; rintro e w9 ⟨rfl, rfl⟩))
      refine hK.out _ _ ?_ (fun hHeld => ?_)
      · (try dsimp only); (with_reducible first | exact E.four | exact E.drew.four)
      clear hK K
      refine wpAnyH_ready (rs := [8]) (by kernel_rfl) (by simp) ?_
      refine AllReadyH.cons rfl (fun K hK => ?_) AllReadyH.nil
      go_simp
      go_wp2_with ((go_at_call 32; refine (T2.out _).mono ?_; rintro e w9 ⟨rfl, hB⟩))
      replace hB := hB.out
      (with_reducible first | replace hB := undr hB | skip)
      replace E := E.below hB
      clear hB
      refine hK.out _ _ ?_ (fun hHeld => ?_)
      · (try dsimp only); (with_reducible first | exact E.four | exact E.drew.four)
      clear hK K
      refine wpAnyH_ready (rs := [9]) (by kernel_rfl) (by simp) ?_
      refine AllReadyH.cons rfl (fun K hK => ?_) AllReadyH.nil
      go_simp
      go_wp2_with ((go_at_call 54; refine (signOf_any _ _).mono ?_; rintro e w9 ⟨rfl, rfl⟩))
      refine hK.out _ _ ?_ (fun hHeld => ?_)
      · (try dsimp only); (with_reducible first | exact E.four | exact E.drew.four)
      clear hK K
      refine wt (i := 10) (v := ?vt1q10x56) rfl ?ht1q10x56 ?rt1q10x56
      case ht1q10x56 => (intro w hSw; (try dsimp only at hSw); go_simp; try with_reducible rfl)
      (try simp only [Act.put, lq1, lq2, lq3, lq4, lq5, lq6])
      refine wt (i := 11) (v := ?vt1q11x59) rfl ?ht1q11x59 ?rt1q11x59
      case ht1q11x59 => (intro w hSw; (try dsimp only at hSw); go_simp; try with_reducible rfl)
      (try simp only [Act.put, lq1, lq2, lq3, lq4, lq5, lq6])
      refine wpAnyH_done (by kernel_rfl) ?_ _
      go_upto_region 19 with fail
      refine wp_region_held_drew (S := (fun w' => (w'.cell? ⟨w.heap.size, 0, none⟩ = some (.int .i64 p.1) ∧ w'.cell? ⟨w.heap.size, 1, none⟩ = some (.int .i64 p.2)) ∧ (w'.cell? ⟨w.heap.size + 1, 0, none⟩ = some (.int .i64 q.1) ∧ w'.cell? ⟨w.heap.size + 1, 1, none⟩ = some (.int .i64 q.2)) ∧ (w'.cell? ⟨w.heap.size + 1 + 1, 0, none⟩ = some (.int .i64 r.1) ∧ w'.cell? ⟨w.heap.size + 1 + 1, 1, none⟩ = some (.int .i64 r.2)) ∧ w'.cell? ⟨w.heap.size + 1 + 1 + 1, 0, none⟩ = some (.int .i64 s.1) ∧ w'.cell? ⟨w.heap.size + 1 + 1 + 1, 1, none⟩ = some (.int .i64 s.2))) (by kernel_rfl) ?_ (fun hHeld => ?_)
      · (try dsimp only); (with_reducible first | exact E.four | exact E.drew.four)
      refine wt (i := 0) (v := ?vt2q0x2) rfl ?ht2q0x2 ?rt2q0x2
      case ht2q0x2 => (intro w hSw; (try dsimp only at hSw); go_simp; try with_reducible rfl)
      (try simp only [Act.put, lq1, lq2, lq4, lq5, lq6])
      refine wt (i := 1) (v := ?vt2q1x5) rfl ?ht2q1x5 ?rt2q1x5
      case ht2q1x5 => (intro w hSw; (try dsimp only at hSw); go_simp; try with_reducible rfl)
      (try simp only [Act.put, lq1, lq2, lq3, lq4, lq5, lq6])
      refine wt (i := 2) (v := ?vt2q2x8) rfl ?ht2q2x8 ?rt2q2x8
      case ht2q2x8 => (intro w hSw; (try dsimp only at hSw); go_simp; try with_reducible rfl)
      (try simp only [Act.put, lq1, lq2, lq3, lq4, lq5, lq6])
      refine wt (i := 5) (v := ?vt2q5x11) rfl ?ht2q5x11 ?rt2q5x11
      case ht2q5x11 => (intro w hSw; (try dsimp only at hSw); go_simp; try with_reducible rfl)
      (try simp only [Act.put, lq1, lq2, lq3, lq4, lq5, lq6])
      refine wt (i := 6) (v := ?vt2q6x14) rfl ?ht2q6x14 ?rt2q6x14
      case ht2q6x14 => (intro w hSw; (try dsimp only at hSw); go_simp; try with_reducible rfl)
      (try simp only [Act.put, lq1, lq2, lq3, lq4, lq5, lq6])
      refine wt (i := 7) (v := ?vt2q7x17) rfl ?ht2q7x17 ?rt2q7x17
      case ht2q7x17 => (intro w hSw; (try dsimp only at hSw); go_simp; try with_reducible rfl)
      (try simp only [Act.put, lq1, lq2, lq3, lq4, lq5, lq6])
      refine wpAnyH_ready (rs := [3]) (by kernel_rfl) (by simp) ?_
      refine AllReadyH.cons rfl (fun K hK => ?_) AllReadyH.nil
      go_simp
      go_wp2_with ((go_at_call 32; refine (T3.out _).mono ?_; rintro e w9 ⟨rfl, hB⟩))
      replace hB := hB.out
      (with_reducible first | replace hB := undr hB | skip)
      replace E := E.below hB
      clear hB
      refine hK.out _ _ ?_ (fun hHeld => ?_)
      · (try dsimp only); (with_reducible first | exact E.four | exact E.drew.four)
      clear hK K
      refine wpAnyH_ready (rs := [4]) (by kernel_rfl) (by simp) ?_
      refine AllReadyH.cons rfl (fun K hK => ?_) AllReadyH.nil
      go_simp
      go_wp2_with ((go_at_call 54; refine (signOf_any _ _).mono ?_; rintro e w9 ⟨rfl, rfl⟩))
      refine hK.out _ _ ?_ (fun hHeld => ?_)
      · (try dsimp only); (with_reducible first | exact E.four | exact E.drew.four)
      clear hK K
      refine wpAnyH_ready (rs := [8]) (by kernel_rfl) (by simp) ?_
      refine AllReadyH.cons rfl (fun K hK => ?_) AllReadyH.nil
      go_simp
      go_wp2_with ((go_at_call 32; refine (T4.out _).mono ?_; rintro e w9 ⟨rfl, hB⟩))
      replace hB := hB.out
      (with_reducible first | replace hB := undr hB | skip)
      replace E := E.below hB
      clear hB
      refine hK.out _ _ ?_ (fun hHeld => ?_)
      · (try dsimp only); (with_reducible first | exact E.four | exact E.drew.four)
      clear hK K
      refine wpAnyH_ready (rs := [9]) (by kernel_rfl) (by simp) ?_
      refine AllReadyH.cons rfl (fun K hK => ?_) AllReadyH.nil
      go_simp
      go_wp2_with ((go_at_call 54; refine (signOf_any _ _).mono ?_; rintro e w9 ⟨rfl, rfl⟩))
      refine hK.out _ _ ?_ (fun hHeld => ?_)
      · (try dsimp only); (with_reducible first | exact E.four | exact E.drew.four)
      clear hK K
      refine wt (i := 10) (v := ?vt2q10x56) rfl ?ht2q10x56 ?rt2q10x56
      case ht2q10x56 => (intro w hSw; (try dsimp only at hSw); go_simp; try with_reducible rfl)
      (try simp only [Act.put, lq1, lq2, lq3, lq4, lq5, lq6])
      refine wt (i := 11) (v := ?vt2q11x59) rfl ?ht2q11x59 ?rt2q11x59
      case ht2q11x59 => (intro w hSw; (try dsimp only at hSw); go_simp; try with_reducible rfl)
      (try simp only [Act.put, lq1, lq2, lq3, lq4, lq5, lq6])
      refine wpAnyH_done (by kernel_rfl) ?_ _
      clear wa wb
      by_cases j1 : m1 < 0
      · by_cases j2 : m2 < 0
        · obtain ⟨rfl, rfl⟩ := HNx.out k0 (HX1.out j1 j2)
          clear k0
          obtain ⟨z0, z1⟩ := E.z.c2
          obtain ⟨f0, f1⟩ := E.z.f2
          have HE := hidb E
          clear E
          go_wp2_with fail
          refine bodyPost_ret (v := .tuple #[.int .i64 2, sv (0, 0)]) (by simp [results, Tryd.results38, go_sem, z0, z1]) rfl ⟨rfl, ?_⟩
          exact (HE.out.gr.set (c := w.heap.size + 1 + 1 + 1 + 1) (by omega) 0 (.int .i64 0)).set (c := w.heap.size + 1 + 1 + 1 + 1) (by omega) 1 (.int .i64 0)
        · obtain ⟨rfl, rfl⟩ := HN0.out k0 (HX3.out (by omega))
          clear k0
          obtain ⟨z0, z1⟩ := E.z.c2
          obtain ⟨f0, f1⟩ := E.z.f2
          have HE := hidb E
          clear E
          go_wp2_with fail
          refine bodyPost_ret (v := .tuple #[.int .i64 0, sv (0, 0)]) (by simp [results, Tryd.results38, go_sem, z0, z1]) rfl ⟨rfl, ?_⟩
          exact (HE.out.gr.set (c := w.heap.size + 1 + 1 + 1 + 1) (by omega) 0 (.int .i64 0)).set (c := w.heap.size + 1 + 1 + 1 + 1) (by omega) 1 (.int .i64 0)
      · obtain ⟨rfl, rfl⟩ := HN0.out k0 (HX2.out (by omega))
        clear k0
        obtain ⟨z0, z1⟩ := E.z.c2
        obtain ⟨f0, f1⟩ := E.z.f2
        have HE := hidb E
        clear E
        go_wp2_with fail
        refine bodyPost_ret (v := .tuple #[.int .i64 0, sv (0, 0)]) (by simp [results, Tryd.results38, go_sem, z0, z1]) rfl ⟨rfl, ?_⟩
        exact (HE.out.gr.set (c := w.heap.size + 1 + 1 + 1 + 1) (by omega) 0 (.int .i64 0)).set (c := w.heap.size + 1 + 1 + 1 + 1) (by omega) 1 (.int .i64 0)
/-- The triangles from the first point on. -/
def arK (l : List Sp) (k : Nat) : Int := ((List.range k).map fun i => tn (sx l 0) (sx l (i + 1)) (sx l (i + 2))).sum
end Go.Proofs.YtnadgoomkaldkaaDoor
