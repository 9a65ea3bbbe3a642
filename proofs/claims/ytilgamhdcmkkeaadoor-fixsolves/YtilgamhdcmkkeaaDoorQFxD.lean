/-
  fix.Between.
-/
import Derived.Test.YtilgamhdcmkkeaaDoorQFxC
namespace Go.Proofs.YtilgamhdcmkkeaaDoor
open Go.RowKit WH
attribute [local go_sem ↓] Go.wp_at_zero Go.wp_at_succ

abbrev r6 (a b : Rg) : Array Value := #[.int .i64 a.x, .int .i64 a.y, .int .i64 a.q, .int .i64 b.x, .int .i64 b.y, .int .i64 b.q]
theorem rrow_two (W : World) (a b : Rg) (t : Nat) : RRow (W.alloc (.cells (r6 a b) t)) W.heap.size [a, b] := by
  refine ⟨fun i hi => ?_, by simp⟩
  match i, hi with
  | 0, _ => exact ⟨by simp [go_sem], by simp [go_sem], by simp [go_sem]⟩
  | 1, _ => exact ⟨by simp [go_sem], by simp [go_sem], by simp [go_sem]⟩
theorem rsl_two (T : Nat) (hT : T = 30 ∨ T = 22) {W : World} {B : Nat} (hB : B = W.heap.size) (a b : Rg) (t : Nat) : RSl T (W.alloc (.cells (r6 a b) t)) (some ⟨B, 0, none⟩) B 2 [a, b] := by
  subst hB
  exact ⟨.inl (rrow_two W a b t), fun k hk w => rindex T hT _ 2 2 k hk w⟩
theorem rerr_two (g : Nat → Addr) (a b : Rg) : rerr g [a, b] = if okR a ∧ okR b then .nilIface else errV g 2 := by
  unfold rerr
  rw [if_neg (by simp)]
  simp
/-- What lies in memory: both ranges, the answer. -/
structure BW (W : World) (B : Nat) (a b : Rg) (x y : Int) : Prop where
  fa : At W B [.int .i64 a.x, .int .i64 a.y, .int .i64 a.q]
  fb : At W (B + 1) [.int .i64 b.x, .int .i64 b.y, .int .i64 b.q]
  fr : At W (B + 1 + 1) [.int .i64 x, .int .i64 y]
theorem BW.below {W w' : World} {B : Nat} {a b : Rg} {x y : Int} (hB : Below W.heap.size W w') (h : BW W B a b x y) : BW w' B a b x y := ⟨At.below hB h.fa, At.below hB h.fb, At.below hB h.fr⟩
theorem BW.alloc {W : World} {B : Nat} {a b : Rg} {x y : Int} (h : BW W B a b x y) (o : Obj) : BW (W.alloc o) B a b x y := ⟨h.fa.alloc o, h.fb.alloc o, h.fr.alloc o⟩
theorem BW.init (w : World) (a b : Rg) (t t' : Nat) : BW (((w.alloc (.cells #[.int .i64 a.x, .int .i64 a.y, .int .i64 a.q] t)).alloc (.cells #[.int .i64 b.x, .int .i64 b.y, .int .i64 b.q] t)).alloc (.cells #[.int .i64 0, .int .i64 0] t')) w.heap.size a b 0 0 :=
  ⟨((At.new3 w _ _ _ t).alloc _).alloc _, (At.nx3 (W := w) _ _ _ _ t).alloc _, At.ny2 (W := w) _ _ _ _ t'⟩
set_option maxRecDepth 4000 in
set_option maxHeartbeats 4000000 in
theorem between_bad (g : Nat → Addr) (a b : Rg) (h : ¬ (okR a ∧ okR b)) (w : World) (hl : Laid w g) : Calls Tryd.prog 20 #[a.v, b.v] w fun e w' => e = .returned (.tuple #[.int .i64 0, fr0, errV g 2]) ∧ Gr w w' := by
  have HV := hidb (fun W B hB t hL => valid_any g _ B 2 [a, b] _ (rsl_two 30 (.inl rfl) (W := W) (B := B) hB a b t) (by simp) hL)
  rw [rerr_two, if_neg h] at HV
  have HL := hidb hl
  have hge : w.heap.size ≤ w.heap.size + 1 + 1 := by omega
  clear h hl
  obtain ⟨ax, ay, aq⟩ := a
  obtain ⟨bx, b_y, bq⟩ := b
  have VV := BW.init w ⟨ax, ay, aq⟩ ⟨bx, b_y, bq⟩ 61 25
  have HC : Gr w (((w.alloc (.cells #[.int .i64 ax, .int .i64 ay, .int .i64 aq] 61)).alloc (.cells #[.int .i64 bx, .int .i64 b_y, .int .i64 bq] 61)).alloc (.cells #[.int .i64 0, .int .i64 0] 25)) := (((Gr.refl w).alloc _).alloc _).alloc _
  go_enter Tryd.func20, Tryd.ntmps20
  go_wp2_with fail
  refine (HV.out _ _ (by simp) 61 (HL.out.below (HC.alloc _).out)).mono ?_
  rintro e w1 ⟨rfl, hB⟩
  replace VV := (VV.alloc _).below hB
  replace HC := Gr.step (HC.alloc _) hB
  clear hB HV
  obtain ⟨z0, z1⟩ := VV.fr.c2
  obtain ⟨f0, f1⟩ := VV.fr.f2
  go_wp2
  exact bodyPost_ret (v := .tuple #[.int .i64 0, fr0, errV g 2]) (by simp [results, Tryd.results20, go_sem, z0, z1]) rfl ⟨rfl, (HC.set hge _ _).set hge _ _⟩
theorem BW.qs {W : World} {B N : Nat} {a b : Rg} {x y : Int} (h : BW W B a b x y) (k : At W N [.int .i64 0, .int .i64 1]) : W.cell? ⟨B, 2, none⟩ = some (.int .i64 a.q) ∧ W.cell? ⟨B + 1, 2, none⟩ = some (.int .i64 b.q) ∧ W.cell? ⟨N, 0, none⟩ = some (.int .i64 0) ∧ W.cell? ⟨N, 1, none⟩ = some (.int .i64 1) := ⟨h.fa.c3.2.2, h.fb.c3.2.2, k.c2.1, k.c2.2⟩
theorem BW.qs2 {W : World} {B N : Nat} {a b : Rg} {x y : Int} (h : BW W B a b x y) (k : At W N [.int .i64 0, .int .i64 1]) (hN : B + 1 + 1 < N) (u v : Value) : ((W.setCell ⟨B + 1 + 1, 0, none⟩ u).setCell ⟨B + 1 + 1, 1, none⟩ v).cell? ⟨B, 2, none⟩ = some (.int .i64 a.q) ∧ ((W.setCell ⟨B + 1 + 1, 0, none⟩ u).setCell ⟨B + 1 + 1, 1, none⟩ v).cell? ⟨B + 1, 2, none⟩ = some (.int .i64 b.q) ∧ ((W.setCell ⟨B + 1 + 1, 0, none⟩ u).setCell ⟨B + 1 + 1, 1, none⟩ v).cell? ⟨N, 0, none⟩ = some (.int .i64 0) ∧ ((W.setCell ⟨B + 1 + 1, 0, none⟩ u).setCell ⟨B + 1 + 1, 1, none⟩ v).cell? ⟨N, 1, none⟩ = some (.int .i64 1) :=
  ⟨((h.fa.skip (c := B + 1 + 1) (by omega) 0 u).skip (c := B + 1 + 1) (by omega) 1 v).c3.2.2, ((h.fb.skip (c := B + 1 + 1) (by omega) 0 u).skip (c := B + 1 + 1) (by omega) 1 v).c3.2.2, ((k.skip (c := B + 1 + 1) (by omega) 0 u).skip (c := B + 1 + 1) (by omega) 1 v).c2.1, ((k.skip (c := B + 1 + 1) (by omega) 0 u).skip (c := B + 1 + 1) (by omega) 1 v).c2.2⟩
/-- How many points are on two circles around one point. -/
def rnd (p q : Int) : Int := if p = q then (if p = 0 then 1 else -1) else 0
set_option maxRecDepth 4000 in
set_option maxHeartbeats 4000000 in
theorem between_same (g : Nat → Addr) (a b : Rg) (h : okR a ∧ okR b) (hx : a.x = b.x ∧ a.y = b.y) (w : World) (hl : Laid w g) : Calls Tryd.prog 20 #[a.v, b.v] w fun e w' => e = .returned (.tuple #[.int .i64 (rnd a.q b.q), .agg #[.int .i64 0, .int .i64 1], .nilIface]) ∧ Gr w w' := by
  have HV := hidb (fun W B hB t hL => valid_any g _ B 2 [a, b] _ (rsl_two 30 (.inl rfl) (W := W) (B := B) hB a b t) (by simp) hL)
  rw [rerr_two, if_pos h] at HV
  have HL := hidb hl
  have HOK := hidb h
  have hge : w.heap.size ≤ w.heap.size + 1 + 1 := by omega
  clear h hl
  obtain ⟨ax, ay, aq⟩ := a
  obtain ⟨bx, b_y, bq⟩ := b
  obtain ⟨rfl, rfl⟩ : ax = bx ∧ ay = b_y := hx
  dsimp only
  have HA : Hid (∀ w, Calls Tryd.prog 39 #[.int .i64 aq, .int .i64 bq] w fun e w' => e = .returned (.int .i64 (rnd aq bq)) ∧ w' = w) := fun w => around_any aq bq w
  generalize rnd aq bq = k at *
  have VV := BW.init w ⟨ax, ay, aq⟩ ⟨ax, ay, bq⟩ 61 25
  have HC : Gr w (((w.alloc (.cells #[.int .i64 ax, .int .i64 ay, .int .i64 aq] 61)).alloc (.cells #[.int .i64 ax, .int .i64 ay, .int .i64 bq] 61)).alloc (.cells #[.int .i64 0, .int .i64 0] 25)) := (((Gr.refl w).alloc _).alloc _).alloc _
  go_enter Tryd.func20, Tryd.ntmps20
  go_wp2_with fail
  refine (HV.out _ _ (by simp) 61 (HL.out.below (HC.alloc _).out)).mono ?_
  rintro e w1 ⟨rfl, hB⟩
  replace VV := (VV.alloc _).below hB
  replace HC := Gr.step (HC.alloc _) hB
  clear hB HV
  have N1 := At.new2 w1 (.int .i64 0) (.int .i64 1) 25
  obtain ⟨N, hN⟩ : ∃ N, N = w1.heap.size := ⟨_, rfl⟩
  rw [← hN] at N1
  have hNl : w.heap.size + 1 + 1 < N := by rw [hN]; exact VV.fr.lt
  replace VV := VV.alloc (.cells #[.int .i64 0, .int .i64 1] 25)
  replace HC := HC.alloc (.cells #[.int .i64 0, .int .i64 1] 25)
  obtain ⟨a0, a1, a2⟩ := VV.fa.c3
  obtain ⟨b0, b1, b2⟩ := VV.fb.c3
  dsimp only at a0 a1 a2 b0 b1 b2
  go_upto_region 6 with fail
  rw [← hN]
  clear hN a0 a1 a2 b0 b1 b2
  generalize w1.alloc (.cells #[.int .i64 0, .int .i64 1] 25) = w2 at *
  go_region_held (fun w' => w'.cell? ⟨w.heap.size, 2, none⟩ = some (.int .i64 aq) ∧ w'.cell? ⟨w.heap.size + 1, 2, none⟩ = some (.int .i64 bq) ∧ w'.cell? ⟨N, 0, none⟩ = some (.int .i64 0) ∧ w'.cell? ⟨N, 1, none⟩ = some (.int .i64 1))
    (first | (with_reducible exact VV.qs N1) | (with_reducible exact VV.qs2 N1 hNl _ _) | exact VV.qs N1 | exact VV.qs2 N1 hNl _ _)
    ((first | (go_at_call 39; refine (HA.out _).mono ?_; rintro e w3 ⟨rfl, rfl⟩; obtain ⟨z0, z1⟩ := VV.fr.c2; obtain ⟨f0, f1⟩ := VV.fr.f2) | fail))
  all_goals
    go_wp2
    obtain ⟨r0, r1⟩ := (At.fill2 (VV.fr.has rfl) (.int .i64 0) (.int .i64 1)).drew.c2
    exact bodyPost_ret (v := .tuple #[.int .i64 k, .agg #[.int .i64 0, .int .i64 1], .nilIface]) (by simp [results, Tryd.results20, go_sem, r0, r1]) rfl ⟨rfl, ((HC.set hge _ _).set hge _ _).drew⟩
theorem cn2 {W : World} {C N B : Nat} {o : Bool} {t x y : Value} (h : At W C [.bool o, t]) (k : At W N [x, y]) (h1 : B < C) (h2 : B < N) (u v : Value) : ((W.setCell ⟨B, 0, none⟩ u).setCell ⟨B, 1, none⟩ v).cell? ⟨C, 0, none⟩ = some (.bool o) ∧ ((W.setCell ⟨B, 0, none⟩ u).setCell ⟨B, 1, none⟩ v).cell? ⟨C, 1, none⟩ = some t ∧ ((W.setCell ⟨B, 0, none⟩ u).setCell ⟨B, 1, none⟩ v).cell? ⟨N, 0, none⟩ = some x ∧ ((W.setCell ⟨B, 0, none⟩ u).setCell ⟨B, 1, none⟩ v).cell? ⟨N, 1, none⟩ = some y :=
  ⟨((h.skip (c := B) (by omega) 0 u).skip (c := B) (by omega) 1 v).c2.1, ((h.skip (c := B) (by omega) 0 u).skip (c := B) (by omega) 1 v).c2.2, ((k.skip (c := B) (by omega) 0 u).skip (c := B) (by omega) 1 v).c2.1, ((k.skip (c := B) (by omega) 0 u).skip (c := B) (by omega) 1 v).c2.2⟩
theorem spot_ne {x y a b : Int} (h : ¬ (x = a ∧ y = b)) (w : World) : (binOp .eql 45 (spV x y) (spV a b)).run Tryd.prog w = .ok (.bool false) w := by
  by_cases c : x = a
  · have d : ¬ y = b := fun e => h ⟨c, e⟩
    simp [go_sem, c, d]
  · simp [go_sem, c]
set_option maxRecDepth 4000 in
set_option maxHeartbeats 8000000 in
theorem between_low (g : Nat → Addr) (a b : Rg) (h : okR a ∧ okR b) (hx : ¬ (a.x = b.x ∧ a.y = b.y)) (hz : chd (far a.x a.y b.x b.y) a.q b.q ≤ 0) (w : World) (hl : Laid w g) : Calls Tryd.prog 20 #[a.v, b.v] w fun e w' => e = .returned (.tuple #[.int .i64 (sgn (chd (far a.x a.y b.x b.y) a.q b.q) + 1), .agg #[.int .i64 0, .int .i64 1], .nilIface]) ∧ Gr w w' := by
  have HV := hidb (fun W B hB t hL => valid_any g _ B 2 [a, b] _ (rsl_two 30 (.inl rfl) (W := W) (B := B) hB a b t) (by simp) hL)
  rw [rerr_two, if_pos h] at HV
  have HL := hidb hl
  have HOK := hidb h
  have hge : w.heap.size ≤ w.heap.size + 1 + 1 := by omega
  clear h hl
  obtain ⟨ax, ay, aq⟩ := a
  obtain ⟨bx, b_y, bq⟩ := b
  dsimp only at *
  have HF := hidb (fun w => apart_any (x := ax) (y := ay) (a := bx) (b := b_y) HOK.out.1.1 HOK.out.2.1 w)
  obtain ⟨f1, f2⟩ := far_bd (x := ax) (y := ay) (a := bx) (b := b_y) HOK.out.1.1 HOK.out.2.1
  have HCh := hidb (fun w => chord_any (d := far ax ay bx b_y) (p := aq) (q := bq) f1 f2 HOK.out.1.2.1 HOK.out.1.2.2 HOK.out.2.2.1 HOK.out.2.2.2 w)
  have hs : sgn (chd (far ax ay bx b_y) aq bq) ≤ 0 ∧ -1 ≤ sgn (chd (far ax ay bx b_y) aq bq) := by unfold sgn; split <;> (try split) <;> omega
  obtain ⟨hs1, hs2⟩ := hs
  have HSG := hidb (fun w m v (h : Nm w m v (chd (far ax ay bx b_y) aq bq)) => sign_nm h)
  generalize sgn (chd (far ax ay bx b_y) aq bq) = sy at *
  generalize chd (far ax ay bx b_y) aq bq = z at *
  generalize far ax ay bx b_y = d at *
  have hEq := spot_ne hx
  clear hz f1 f2 hx
  have hw : IntKind.i64.wrap (sy + 1) = sy + 1 := wr_in (by omega) (by omega)
  obtain ⟨s1, hs3⟩ : ∃ s1, s1 = sy + 1 := ⟨_, rfl⟩
  rw [← hs3]
  have hw' : IntKind.i64.wrap (sy + 1) = s1 := by rw [hs3]; exact hw
  clear hw hs3
  have VV := BW.init w ⟨ax, ay, aq⟩ ⟨bx, b_y, bq⟩ 61 25
  have HC : Gr w (((w.alloc (.cells #[.int .i64 ax, .int .i64 ay, .int .i64 aq] 61)).alloc (.cells #[.int .i64 bx, .int .i64 b_y, .int .i64 bq] 61)).alloc (.cells #[.int .i64 0, .int .i64 0] 25)) := (((Gr.refl w).alloc _).alloc _).alloc _
  go_enter Tryd.func20, Tryd.ntmps20
  go_wp2_with fail
  refine (HV.out _ _ (by simp) 61 (HL.out.below (HC.alloc _).out)).mono ?_
  rintro e w1 ⟨rfl, hB⟩
  replace VV := (VV.alloc _).below hB
  replace HC := Gr.step (HC.alloc _) hB
  clear hB HV
  have N1 := At.new2 w1 (.int .i64 0) (.int .i64 1) 25
  obtain ⟨N, hN⟩ : ∃ N, N = w1.heap.size := ⟨_, rfl⟩
  rw [← hN] at N1
  have hNl : w.heap.size + 1 + 1 < N := by rw [hN]; exact VV.fr.lt
  replace VV := VV.alloc (.cells #[.int .i64 0, .int .i64 1] 25)
  replace HC := HC.alloc (.cells #[.int .i64 0, .int .i64 1] 25)
  obtain ⟨a0, a1, a2⟩ := VV.fa.c3
  obtain ⟨b0, b1, b2⟩ := VV.fb.c3
  dsimp only at a0 a1 a2 b0 b1 b2
  go_wp2_with fail
  rw [← hN]
  clear hN a0 a1 a2 b0 b1 b2
  refine (HF.out _).mono ?_
  rintro e w3 ⟨rfl, hB, _⟩
  replace VV := VV.below hB
  replace N1 := At.below hB N1
  replace HC := Gr.step HC hB
  clear hB HF hEq
  obtain ⟨a0, a1, a2⟩ := VV.fa.c3
  obtain ⟨b0, b1, b2⟩ := VV.fb.c3
  dsimp only at a0 a1 a2 b0 b1 b2
  go_wp2_with fail
  refine (HCh.out _).mono ?_
  rintro e w4 ⟨o, t, rfl, hn, hB, _⟩
  obtain ⟨ad, L, cap, hf⟩ := hn.form
  subst hf
  replace VV := VV.below hB
  replace N1 := At.below hB N1
  replace HC := Gr.step HC hB
  clear hB HCh a0 a1 a2 b0 b1 b2
  have C1 := At.new2 w4 (.bool o) (.slice ad L cap) 68
  obtain ⟨C, hCe⟩ : ∃ C, C = w4.heap.size := ⟨_, rfl⟩
  rw [← hCe] at C1
  have hCl : N < C := by rw [hCe]; exact N1.lt
  replace VV := VV.alloc (.cells #[.bool o, .slice ad L cap] 68)
  replace N1 := N1.alloc (.cells #[.bool o, .slice ad L cap] 68)
  replace HC := HC.alloc (.cells #[.bool o, .slice ad L cap] 68)
  have HN := hidb (hn.below ((Below.refl _ _).alloc (Nat.le_refl _) (.cells #[.bool o, .slice ad L cap] 68)))
  clear hn
  go_wp2_with fail
  rw [← hCe]
  clear hCe
  generalize w4.alloc (.cells #[.bool o, .slice ad L cap] 68) = w5 at *
  refine (HSG.out _ _ _ HN.out).mono ?_
  rintro e w6 ⟨rfl, hB, _⟩
  replace VV := VV.below hB
  replace N1 := At.below hB N1
  replace C1 := At.below hB C1
  replace HC := Gr.step HC hB
  replace HN := hidb (HN.out.below hB)
  clear hB
  go_upto_region 10 with fail
  go_region_held (fun w' => w'.cell? ⟨C, 0, none⟩ = some (.bool o) ∧ w'.cell? ⟨C, 1, none⟩ = some (.slice ad L cap) ∧ w'.cell? ⟨N, 0, none⟩ = some (.int .i64 0) ∧ w'.cell? ⟨N, 1, none⟩ = some (.int .i64 1))
    (first | (with_reducible exact ⟨C1.c2.1, C1.c2.2, N1.c2.1, N1.c2.2⟩) | exact ⟨C1.c2.1, C1.c2.2, N1.c2.1, N1.c2.2⟩ | exact cn2 C1 N1 (by omega) (by omega) _ _)
    ((first | (go_at_call 25; refine (HSG.out _ _ _ HN.out.drew).mono ?_; rintro e w7 ⟨rfl, hB, _⟩; (with_reducible first | replace hB := undr hB | skip); replace VV := VV.below hB; replace N1 := At.below hB N1; replace C1 := At.below hB C1; replace HC := Gr.step HC hB; obtain ⟨z0, z1⟩ := VV.fr.c2; obtain ⟨f0, f1⟩ := VV.fr.f2) | fail))
  all_goals
    go_wp2
    obtain ⟨r0, r1⟩ := (At.fill2 (VV.fr.has rfl) (.int .i64 0) (.int .i64 1)).c2
    exact bodyPost_ret (v := .tuple #[.int .i64 s1, .agg #[.int .i64 0, .int .i64 1], .nilIface]) (by simp [results, Tryd.results20, go_sem, r0, r1]) rfl ⟨rfl, (HC.set hge _ _).set hge _ _⟩
theorem far_zero {x y a b : Int} (h : far x y a b = 0) : x = a ∧ y = b := by
  unfold far at h
  have sq : ∀ z : Int, 0 ≤ z * z ∧ (z * z = 0 → z = 0) := fun z => ⟨by
    rcases Int.le_total 0 z with h | h
    · exact Int.mul_nonneg h h
    · have := Int.mul_nonneg (show 0 ≤ -z by omega) (show 0 ≤ -z by omega)
      rwa [Int.neg_mul_neg] at this, fun e => by rcases Int.mul_eq_zero.1 e with e | e <;> exact e⟩
  have h1 := sq (x - a)
  have h2 := sq (y - b)
  have e1 := h1.2 (by omega)
  have e2 := h2.2 (by omega)
  omega
theorem chd_bw {d p q : Int} (d0 : 0 ≤ d) (d1 : d ≤ 2251799813685248) (p0 : 0 ≤ p) (p1 : p ≤ 4503599627370496) (q0 : 0 ≤ q) (q1 : q ≤ 4503599627370496) : Bw (chd d p q) := by
  have m1 : (d + p - q).natAbs < 2 ^ 54 := by omega
  have m2 : (4 * d).natAbs < 2 ^ 54 := by omega
  have m3 : p.natAbs < 2 ^ 54 := by omega
  have h1 := bw_mul m2 m3
  have h2 := bw_mul m1 m1
  refine bw_lt (k := 110) ?_ (by decide)
  unfold chd
  omega
/-- A fraction, or none and its error. -/
theorem q_cases (g : Nat → Addr) (x y : Int) : (qf x y = true ∧ qe g x y = .nilIface) ∨ (qf x y = false ∧ qx x y = 0 ∧ qy x y = 0 ∧ qe g x y = errV g 1) := by
  unfold qf qe qx qy re rx ry
  by_cases h : fits (rn x.natAbs y.natAbs) (rd x.natAbs y.natAbs)
  · left; exact ⟨decide_eq_true h, if_pos h⟩
  · right; exact ⟨decide_eq_false h, if_neg h, if_neg h, if_neg h⟩
set_option maxRecDepth 4000 in
set_option maxHeartbeats 8000000 in
theorem between_two (g : Nat → Addr) (a b : Rg) (h : okR a ∧ okR b) (hx : ¬ (a.x = b.x ∧ a.y = b.y)) (hz : 0 < chd (far a.x a.y b.x b.y) a.q b.q) (w : World) (hl : Laid w g) : Calls Tryd.prog 20 #[a.v, b.v] w fun e w' => e = .returned (.tuple #[.int .i64 (if qf (chd (far a.x a.y b.x b.y) a.q b.q) (far a.x a.y b.x b.y) then 2 else 0), .agg #[.int .i64 (qx (chd (far a.x a.y b.x b.y) a.q b.q) (far a.x a.y b.x b.y)), .int .i64 (qy (chd (far a.x a.y b.x b.y) a.q b.q) (far a.x a.y b.x b.y))], qe g (chd (far a.x a.y b.x b.y) a.q b.q) (far a.x a.y b.x b.y)]) ∧ Gr w w' := by
  have HV := hidb (fun W B hB t hL => valid_any g _ B 2 [a, b] _ (rsl_two 30 (.inl rfl) (W := W) (B := B) hB a b t) (by simp) hL)
  rw [rerr_two, if_pos h] at HV
  have HL := hidb hl
  have HOK := hidb h
  have hge : w.heap.size ≤ w.heap.size + 1 + 1 := by omega
  clear h hl
  obtain ⟨ax, ay, aq⟩ := a
  obtain ⟨bx, b_y, bq⟩ := b
  dsimp only at *
  have HF := hidb (fun w => apart_any (x := ax) (y := ay) (a := bx) (b := b_y) HOK.out.1.1 HOK.out.2.1 w)
  obtain ⟨f1, f2⟩ := far_bd (x := ax) (y := ay) (a := bx) (b := b_y) HOK.out.1.1 HOK.out.2.1
  have HCh := hidb (fun w => chord_any (d := far ax ay bx b_y) (p := aq) (q := bq) f1 f2 HOK.out.1.2.1 HOK.out.1.2.2 HOK.out.2.2.1 HOK.out.2.2.2 w)
  have hs : sgn (chd (far ax ay bx b_y) aq bq) = 1 := by unfold sgn; rw [if_neg (by omega), if_neg (by omega)]
  have hd0 : ¬ far ax ay bx b_y = 0 := fun e => hx (far_zero e)
  have HZB : Hid (Bw (chd (far ax ay bx b_y) aq bq) ∧ Bw (far ax ay bx b_y)) := ⟨chd_bw f1 f2 HOK.out.1.2.1 HOK.out.1.2.2 HOK.out.2.2.1 HOK.out.2.2.2, bw_lt (k := 60) (by omega) (by decide)⟩
  have HOf := hidb (fun w => ofN (far ax ay bx b_y) ⟨by omega, by omega⟩ w)
  have HFr := hidb (fun w m n u v (h : Nm w m u (chd (far ax ay bx b_y) aq bq)) (k : Nm w n v (far ax ay bx b_y)) (hl : Laid w g) => frac_all g HZB.out.1 HZB.out.2 hd0 h k hl)
  have HSG := hidb (fun w m v (h : Nm w m v (chd (far ax ay bx b_y) aq bq)) => sign_nm h)
  rw [hs] at HSG
  have HQ := hidb (q_cases g (chd (far ax ay bx b_y) aq bq) (far ax ay bx b_y))
  generalize qx (chd (far ax ay bx b_y) aq bq) (far ax ay bx b_y) = X at *
  generalize qy (chd (far ax ay bx b_y) aq bq) (far ax ay bx b_y) = Y at *
  generalize qe g (chd (far ax ay bx b_y) aq bq) (far ax ay bx b_y) = E at *
  generalize qf (chd (far ax ay bx b_y) aq bq) (far ax ay bx b_y) = Fb at *
  have HQ2 : Hid (((if Fb = true then 2 else 0 : Int) = 2 ∧ E = .nilIface) ∨ ((if Fb = true then 2 else 0 : Int) = 0 ∧ X = 0 ∧ Y = 0 ∧ E = errV g 1)) := by
    rcases HQ.out with ⟨h1, h2⟩ | ⟨h1, h2, h3, h4⟩
    · left; exact ⟨by rw [h1]; rfl, h2⟩
    · right; exact ⟨by rw [h1]; rfl, h2, h3, h4⟩
  generalize (if Fb = true then 2 else 0 : Int) = N2 at *
  clear HQ
  generalize chd (far ax ay bx b_y) aq bq = z at *
  generalize far ax ay bx b_y = d at *
  have hEq := spot_ne hx
  clear hz f1 f2 hx hs hd0
  have VV := BW.init w ⟨ax, ay, aq⟩ ⟨bx, b_y, bq⟩ 61 25
  have HC : Gr w (((w.alloc (.cells #[.int .i64 ax, .int .i64 ay, .int .i64 aq] 61)).alloc (.cells #[.int .i64 bx, .int .i64 b_y, .int .i64 bq] 61)).alloc (.cells #[.int .i64 0, .int .i64 0] 25)) := (((Gr.refl w).alloc _).alloc _).alloc _
  go_enter Tryd.func20, Tryd.ntmps20
  go_wp2_with fail
  refine (HV.out _ _ (by simp) 61 (HL.out.below (HC.alloc _).out)).mono ?_
  rintro e w1 ⟨rfl, hB⟩
  replace VV := (VV.alloc _).below hB
  replace HC := Gr.step (HC.alloc _) hB
  clear hB HV
  have N1 := At.new2 w1 (.int .i64 0) (.int .i64 1) 25
  obtain ⟨N, hN⟩ : ∃ N, N = w1.heap.size := ⟨_, rfl⟩
  rw [← hN] at N1
  have hNl : w.heap.size + 1 + 1 < N := by rw [hN]; exact VV.fr.lt
  replace VV := VV.alloc (.cells #[.int .i64 0, .int .i64 1] 25)
  replace HC := HC.alloc (.cells #[.int .i64 0, .int .i64 1] 25)
  obtain ⟨a0, a1, a2⟩ := VV.fa.c3
  obtain ⟨b0, b1, b2⟩ := VV.fb.c3
  dsimp only at a0 a1 a2 b0 b1 b2
  go_wp2_with fail
  rw [← hN]
  clear hN a0 a1 a2 b0 b1 b2
  refine (HF.out _).mono ?_
  rintro e w3 ⟨rfl, hB, _⟩
  replace VV := VV.below hB
  replace N1 := At.below hB N1
  replace HC := Gr.step HC hB
  clear hB HF hEq
  obtain ⟨a0, a1, a2⟩ := VV.fa.c3
  obtain ⟨b0, b1, b2⟩ := VV.fb.c3
  dsimp only at a0 a1 a2 b0 b1 b2
  go_wp2_with fail
  refine (HCh.out _).mono ?_
  rintro e w4 ⟨o, t, rfl, hn, hB, _⟩
  obtain ⟨ad, L, cap, hf⟩ := hn.form
  subst hf
  replace VV := VV.below hB
  replace N1 := At.below hB N1
  replace HC := Gr.step HC hB
  clear hB HCh a0 a1 a2 b0 b1 b2
  have C1 := At.new2 w4 (.bool o) (.slice ad L cap) 68
  obtain ⟨C, hCe⟩ : ∃ C, C = w4.heap.size := ⟨_, rfl⟩
  rw [← hCe] at C1
  have hCl : N < C := by rw [hCe]; exact N1.lt
  replace VV := VV.alloc (.cells #[.bool o, .slice ad L cap] 68)
  replace N1 := N1.alloc (.cells #[.bool o, .slice ad L cap] 68)
  replace HC := HC.alloc (.cells #[.bool o, .slice ad L cap] 68)
  have HN := hidb (hn.below ((Below.refl _ _).alloc (Nat.le_refl _) (.cells #[.bool o, .slice ad L cap] 68)))
  clear hn
  go_wp2_with fail
  rw [← hCe]
  clear hCe
  generalize w4.alloc (.cells #[.bool o, .slice ad L cap] 68) = w5 at *
  refine (HSG.out _ _ _ HN.out).mono ?_
  rintro e w6 ⟨rfl, hB, _⟩
  replace VV := VV.below hB
  replace N1 := At.below hB N1
  replace C1 := At.below hB C1
  replace HC := Gr.step HC hB
  replace HN := hidb (HN.out.below hB)
  clear hB
  obtain ⟨c0, c1⟩ := C1.c2
  have FR := VV.fr
  have hNC : w.heap.size + 1 + 1 < C := by omega
  have HLd := hidb HL.out
  clear VV N1 c0 c1
  go_upto_region 11 with fail
  go_cut [11, 12] from 51 to 57 (fun s11 s12 wx => ∃ B, s11 = .pointer (some ⟨B, 0, none⟩) ∧ s12 = E ∧ At wx B [.int .i64 X, .int .i64 Y] ∧ At wx (w.heap.size + 1 + 1) [.int .i64 0, .int .i64 0] ∧ Gr w wx ∧ w.heap.size + 1 + 1 < B)
  case first =>
    have G6 := Gr.refl w6
    have lt6 := FR.lt
    have lc6 := C1.lt
    have hsz : w.heap.size ≤ w6.heap.size := HC.out.size
    go_region_held (fun w' => w'.cell? ⟨C, 0, none⟩ = some (.bool o) ∧ w'.cell? ⟨C, 1, none⟩ = some (.slice ad L cap))
      ((exact At.c2 (B := C) (a := .bool o) (b := .slice ad L cap) (by ((with_reducible repeat' (first | assumption | exact At.new1 _ _ _ | exact At.new2 _ _ _ _ | exact At.new3 _ _ _ _ _ | exact At.nx1 _ _ _ | exact At.nx2 _ _ _ _ | exact At.nx3 _ _ _ _ _ | exact At.ny1 _ _ _ _ | exact At.ny2 _ _ _ _ _ | exact At.ny3 _ _ _ _ _ _ | exact At.nz1 _ _ _ _ _ | exact At.nz2 _ _ _ _ _ _ | exact At.nz3 _ _ _ _ _ _ _ | exact Has.new1 _ _ _ | exact Has.new2 _ _ _ _ | exact Has.new3 _ _ _ _ _ | exact Has.nx1 _ _ _ | exact Has.nx2 _ _ _ _ | exact Has.nx3 _ _ _ _ _ | exact Has.ny1 _ _ _ _ | exact Has.ny2 _ _ _ _ _ | exact Has.ny3 _ _ _ _ _ _ | exact Has.nz1 _ _ _ _ _ | exact Has.nz2 _ _ _ _ _ _ | exact Has.nz3 _ _ _ _ _ _ _ | refine At.fill1 ?_ _ | refine At.fill2 ?_ _ _ | refine At.fill3 ?_ _ _ _ | refine At.swap ?_ (by first | omega | (simp; omega)) _ _ | refine At.alloc ?_ _ | refine At.drew ?_ | refine At.skip ?_ (by first | omega | (simp; omega)) _ _ | refine At.below (by assumption) ?_ | refine Has.alloc ?_ _ | refine Has.drew ?_ | refine Has.set ?_ _ _ _ | refine Has.below (by assumption) ?_)); done))))
      ((first
        | (go_at_call 42; refine (HOf.out _).mono ?_; rintro e w8 ⟨m8, v8, rfl, h8, hB8, hs8⟩; have N8 := hidb h8; clear h8; obtain ⟨hc8, hf8⟩ := mcell hB8; obtain ⟨ha8, hn8, hm8⟩ := bless hs8; (try simp at hs8); have hz8 : w6.heap.size < w8.heap.size := (by omega); replace HC : Gr w w8 := Gr.step (by ((with_reducible repeat' (first | assumption | refine Gr.drew ?_ | refine Gr.alloc ?_ _ | refine Gr.set ?_ (by first | omega | (simp; omega)) _ _ | exact Gr.refl _)); done)) hB8; replace G6 : Gr w6 w8 := Gr.step (by ((with_reducible repeat' (first | assumption | refine Gr.drew ?_ | refine Gr.alloc ?_ _ | refine Gr.set ?_ (by first | omega | (simp; omega)) _ _ | exact Gr.refl _)); done)) hB8; replace FR : At w8 (w.heap.size + 1 + 1) [.int .i64 0, .int .i64 0] := At.below hB8 (by ((with_reducible repeat' (first | assumption | exact At.new1 _ _ _ | exact At.new2 _ _ _ _ | exact At.new3 _ _ _ _ _ | exact At.nx1 _ _ _ | exact At.nx2 _ _ _ _ | exact At.nx3 _ _ _ _ _ | exact At.ny1 _ _ _ _ | exact At.ny2 _ _ _ _ _ | exact At.ny3 _ _ _ _ _ _ | exact At.nz1 _ _ _ _ _ | exact At.nz2 _ _ _ _ _ _ | exact At.nz3 _ _ _ _ _ _ _ | exact Has.new1 _ _ _ | exact Has.new2 _ _ _ _ | exact Has.new3 _ _ _ _ _ | exact Has.nx1 _ _ _ | exact Has.nx2 _ _ _ _ | exact Has.nx3 _ _ _ _ _ | exact Has.ny1 _ _ _ _ | exact Has.ny2 _ _ _ _ _ | exact Has.ny3 _ _ _ _ _ _ | exact Has.nz1 _ _ _ _ _ | exact Has.nz2 _ _ _ _ _ _ | exact Has.nz3 _ _ _ _ _ _ _ | refine At.fill1 ?_ _ | refine At.fill2 ?_ _ _ | refine At.fill3 ?_ _ _ _ | refine At.swap ?_ (by first | omega | (simp; omega)) _ _ | refine At.alloc ?_ _ | refine At.drew ?_ | refine At.skip ?_ (by first | omega | (simp; omega)) _ _ | refine At.below (by assumption) ?_ | refine Has.alloc ?_ _ | refine Has.drew ?_ | refine Has.set ?_ _ _ _ | refine Has.below (by assumption) ?_)); done)); replace C1 : At w8 C [.bool o, .slice ad L cap] := At.below hB8 (by ((with_reducible repeat' (first | assumption | exact At.new1 _ _ _ | exact At.new2 _ _ _ _ | exact At.new3 _ _ _ _ _ | exact At.nx1 _ _ _ | exact At.nx2 _ _ _ _ | exact At.nx3 _ _ _ _ _ | exact At.ny1 _ _ _ _ | exact At.ny2 _ _ _ _ _ | exact At.ny3 _ _ _ _ _ _ | exact At.nz1 _ _ _ _ _ | exact At.nz2 _ _ _ _ _ _ | exact At.nz3 _ _ _ _ _ _ _ | exact Has.new1 _ _ _ | exact Has.new2 _ _ _ _ | exact Has.new3 _ _ _ _ _ | exact Has.nx1 _ _ _ | exact Has.nx2 _ _ _ _ | exact Has.nx3 _ _ _ _ _ | exact Has.ny1 _ _ _ _ | exact Has.ny2 _ _ _ _ _ | exact Has.ny3 _ _ _ _ _ _ | exact Has.nz1 _ _ _ _ _ | exact Has.nz2 _ _ _ _ _ _ | exact Has.nz3 _ _ _ _ _ _ _ | refine At.fill1 ?_ _ | refine At.fill2 ?_ _ _ | refine At.fill3 ?_ _ _ _ | refine At.swap ?_ (by first | omega | (simp; omega)) _ _ | refine At.alloc ?_ _ | refine At.drew ?_ | refine At.skip ?_ (by first | omega | (simp; omega)) _ _ | refine At.below (by assumption) ?_ | refine Has.alloc ?_ _ | refine Has.drew ?_ | refine Has.set ?_ _ _ _ | refine Has.below (by assumption) ?_)); done)))
        | (go_at_call 26; refine (HFr.out _ _ _ _ _ (HN.out.below (Gr.out (by ((with_reducible repeat' (first | assumption | refine Gr.drew ?_ | refine Gr.alloc ?_ _ | refine Gr.set ?_ (by first | omega | (simp; omega)) _ _ | exact Gr.refl _)); done)))) (by first | exact N8.out | exact N8.out.below ((Below.refl _ _).alloc (Nat.le_refl _) _)) (HLd.out.below (Gr.out (by ((with_reducible repeat' (first | assumption | refine Gr.drew ?_ | refine Gr.alloc ?_ _ | refine Gr.set ?_ (by first | omega | (simp; omega)) _ _ | exact Gr.refl _)); done))))).mono ?_; rintro e w9 ⟨rfl, hB9, hs9⟩; obtain ⟨hc9, hf9⟩ := mcell hB9; obtain ⟨ha9, hn9, hm9⟩ := bless hs9; (try simp at hs9); have hz9 : w8.heap.size < w9.heap.size := (by omega); replace HC : Gr w w9 := Gr.step (by ((with_reducible repeat' (first | assumption | refine Gr.drew ?_ | refine Gr.alloc ?_ _ | refine Gr.set ?_ (by first | omega | (simp; omega)) _ _ | exact Gr.refl _)); done)) hB9; replace FR : At w9 (w.heap.size + 1 + 1) [.int .i64 0, .int .i64 0] := At.below hB9 (by ((with_reducible repeat' (first | assumption | exact At.new1 _ _ _ | exact At.new2 _ _ _ _ | exact At.new3 _ _ _ _ _ | exact At.nx1 _ _ _ | exact At.nx2 _ _ _ _ | exact At.nx3 _ _ _ _ _ | exact At.ny1 _ _ _ _ | exact At.ny2 _ _ _ _ _ | exact At.ny3 _ _ _ _ _ _ | exact At.nz1 _ _ _ _ _ | exact At.nz2 _ _ _ _ _ _ | exact At.nz3 _ _ _ _ _ _ _ | exact Has.new1 _ _ _ | exact Has.new2 _ _ _ _ | exact Has.new3 _ _ _ _ _ | exact Has.nx1 _ _ _ | exact Has.nx2 _ _ _ _ | exact Has.nx3 _ _ _ _ _ | exact Has.ny1 _ _ _ _ | exact Has.ny2 _ _ _ _ _ | exact Has.ny3 _ _ _ _ _ _ | exact Has.nz1 _ _ _ _ _ | exact Has.nz2 _ _ _ _ _ _ | exact Has.nz3 _ _ _ _ _ _ _ | refine At.fill1 ?_ _ | refine At.fill2 ?_ _ _ | refine At.fill3 ?_ _ _ _ | refine At.swap ?_ (by first | omega | (simp; omega)) _ _ | refine At.alloc ?_ _ | refine At.drew ?_ | refine At.skip ?_ (by first | omega | (simp; omega)) _ _ | refine At.below (by assumption) ?_ | refine Has.alloc ?_ _ | refine Has.drew ?_ | refine Has.set ?_ _ _ _ | refine Has.below (by assumption) ?_)); done)); replace C1 : At w9 C [.bool o, .slice ad L cap] := At.below hB9 (by ((with_reducible repeat' (first | assumption | exact At.new1 _ _ _ | exact At.new2 _ _ _ _ | exact At.new3 _ _ _ _ _ | exact At.nx1 _ _ _ | exact At.nx2 _ _ _ _ | exact At.nx3 _ _ _ _ _ | exact At.ny1 _ _ _ _ | exact At.ny2 _ _ _ _ _ | exact At.ny3 _ _ _ _ _ _ | exact At.nz1 _ _ _ _ _ | exact At.nz2 _ _ _ _ _ _ | exact At.nz3 _ _ _ _ _ _ _ | exact Has.new1 _ _ _ | exact Has.new2 _ _ _ _ | exact Has.new3 _ _ _ _ _ | exact Has.nx1 _ _ _ | exact Has.nx2 _ _ _ _ | exact Has.nx3 _ _ _ _ _ | exact Has.ny1 _ _ _ _ | exact Has.ny2 _ _ _ _ _ | exact Has.ny3 _ _ _ _ _ _ | exact Has.nz1 _ _ _ _ _ | exact Has.nz2 _ _ _ _ _ _ | exact Has.nz3 _ _ _ _ _ _ _ | refine At.fill1 ?_ _ | refine At.fill2 ?_ _ _ | refine At.fill3 ?_ _ _ _ | refine At.swap ?_ (by first | omega | (simp; omega)) _ _ | refine At.alloc ?_ _ | refine At.drew ?_ | refine At.skip ?_ (by first | omega | (simp; omega)) _ _ | refine At.below (by assumption) ?_ | refine Has.alloc ?_ _ | refine Has.drew ?_ | refine Has.set ?_ _ _ _ | refine Has.below (by assumption) ?_)); done)))))
    all_goals
      go_wp2_with fail
      go_meet
      refine ⟨_, rfl, rfl, ?_, ?_, ?_, ?_⟩
    all_goals first | ((with_reducible repeat' (first | assumption | exact At.new1 _ _ _ | exact At.new2 _ _ _ _ | exact At.new3 _ _ _ _ _ | exact At.nx1 _ _ _ | exact At.nx2 _ _ _ _ | exact At.nx3 _ _ _ _ _ | exact At.ny1 _ _ _ _ | exact At.ny2 _ _ _ _ _ | exact At.ny3 _ _ _ _ _ _ | exact At.nz1 _ _ _ _ _ | exact At.nz2 _ _ _ _ _ _ | exact At.nz3 _ _ _ _ _ _ _ | exact Has.new1 _ _ _ | exact Has.new2 _ _ _ _ | exact Has.new3 _ _ _ _ _ | exact Has.nx1 _ _ _ | exact Has.nx2 _ _ _ _ | exact Has.nx3 _ _ _ _ _ | exact Has.ny1 _ _ _ _ | exact Has.ny2 _ _ _ _ _ | exact Has.ny3 _ _ _ _ _ _ | exact Has.nz1 _ _ _ _ _ | exact Has.nz2 _ _ _ _ _ _ | exact Has.nz3 _ _ _ _ _ _ _ | refine At.fill1 ?_ _ | refine At.fill2 ?_ _ _ | refine At.fill3 ?_ _ _ _ | refine At.swap ?_ (by first | omega | (simp; omega)) _ _ | refine At.alloc ?_ _ | refine At.drew ?_ | refine At.skip ?_ (by first | omega | (simp; omega)) _ _ | refine At.below (by assumption) ?_ | refine Has.alloc ?_ _ | refine Has.drew ?_ | refine Has.set ?_ _ _ _ | refine Has.below (by assumption) ?_)); done) | ((with_reducible repeat' (first | assumption | refine Gr.drew ?_ | refine Gr.alloc ?_ _ | refine Gr.set ?_ (by first | omega | (simp; omega)) _ _ | exact Gr.refl _)); done) | omega | (simp; omega)
  case rest =>
    obtain ⟨B, rfl, rfl, FB, FR, HC, hBl⟩ := hcut
    clear HN HSG HOf HFr C1
    have FRs := FR
    obtain ⟨z0, z1⟩ := FR.c2
    obtain ⟨f0, f1⟩ := FR.f2
    obtain ⟨x0, x1⟩ := FB.c2
    have hne : ¬ w.heap.size + 1 + 1 = B := by omega
    rcases HQ2.out with ⟨q1, q2⟩ | ⟨q1, q2, q3, q4⟩
    · have Q1 := hidb q1
      have Q2 := hidb q2
      rw [q2]
      clear q1 q2 HQ2
      go_upto_region 14 with fail
      go_region_held (fun w' => w'.cell? ⟨B, 0, none⟩ = some (.int .i64 X) ∧ w'.cell? ⟨B, 1, none⟩ = some (.int .i64 Y))
        (first | (with_reducible exact ⟨x0, x1⟩) | exact FB.c2 | exact ((FB.skip hne _ _).skip hne _ _).c2)
        (fail)
      all_goals
        go_wp2
        obtain ⟨r0, r1⟩ := (At.fill2 (FR.has rfl) (.int .i64 X) (.int .i64 Y)).drew.c2
        exact bodyPost_ret (v := .tuple #[.int .i64 2, .agg #[.int .i64 X, .int .i64 Y], .nilIface]) (by simp [results, Tryd.results20, go_sem, r0, r1]) rfl ⟨by rw [Q1.out, Q2.out], ((HC.set hge _ _).set hge _ _).drew⟩
    · have Q1 := hidb q1
      have Q2 := hidb q2
      have Q3 := hidb q3
      have Q4 := hidb q4
      rw [q4]
      clear q1 q2 q3 q4 HQ2
      go_wp2
      exact bodyPost_ret (v := .tuple #[.int .i64 0, fr0, errV g 1]) (by simp [results, Tryd.results20, go_sem, z0, z1]) rfl ⟨by rw [Q1.out, Q2.out, Q3.out, Q4.out], (HC.set hge _ _).set hge _ _⟩
end Go.Proofs.YtilgamhdcmkkeaaDoor
