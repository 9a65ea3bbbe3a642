/-
  survey.level's heights.
-/
import Derived.Test.YtecmkjefoppbiaaDoorQSwF
namespace Go.Proofs.YtecmkjefoppbiaaDoor
open Go.RowKit
attribute [local go_sem ↓] Go.wp_at_zero Go.wp_at_succ

theorem qe_or (g : Nat → Addr) (x y : Int) : qe g x y = .nilIface ∨ qe g x y = errV g 1 := by
  unfold qe re
  split
  · exact .inl rfl
  · exact .inr rfl
theorem FB2.congr {W : World} {B n : Nat} {c d : Nat → Int × Int} (h : FB2 W B n c) (e : ∀ i, i < n → c i = d i) : FB2 W B n d := ⟨fun i hi => by rw [← e i hi]; exact h.cl i hi, h.lt⟩
theorem At.new2n (W : World) (a b : Value) (t : Nat) : At (W.alloc (.cells #[a, b] t)) W.heap.size [a, b] := At.new2 W a b t
/-- What lies in memory while heights are told. -/
structure HT (w1 W : World) (GB OB n : Nat) (mg : Bool) (vg : Value) (gz : Int) (c : Nat → Int × Int) : Prop where
  gr : Gr w1 W
  a : At W GB [.bool mg, vg]
  z : Nm W mg vg gz
  f : FB2 W OB n c
  b : w1.heap.size ≤ GB ∧ w1.heap.size ≤ OB ∧ ¬ OB = GB
theorem HT.below {w1 W w' : World} {GB OB n : Nat} {mg : Bool} {vg : Value} {gz : Int} {c : Nat → Int × Int} (h : HT w1 W GB OB n mg vg gz c) (hB : Below W.heap.size W w') : HT w1 w' GB OB n mg vg gz c := ⟨Gr.step h.gr hB, At.below hB h.a, h.z.below hB, h.f.below hB, h.b⟩
theorem Pt.setI {W : World} {v : Value} {l : List Nat} {B j k : Nat} {x : Int} (h : Pt W v l) (hc : W.cell? ⟨B, 0, none⟩ = some (.int .i64 x)) (y : Value) (_ : j = k) : Pt (W.setCell ⟨B, j, none⟩ y) v l := by
  rcases h with h | ⟨b, cap, h1, h2, h3, h4, h5⟩
  · exact .inl h
  · refine .inr ⟨b, cap, h1, h2, h3, fun i hi => ?_, by simpa using h5⟩
    have hne : ¬ B = b := by
      intro e
      subst e
      have c := h4 0 (by omega)
      rw [hc] at c; cases c
    have hne' : ¬ b = B := fun e => hne e.symm
    simp [go_sem, h4 i hi]
theorem HT.put {w1 W : World} {GB OB n : Nat} {mg : Bool} {vg : Value} {gz : Int} {c : Nat → Int × Int} (h : HT w1 W GB OB n mg vg gz c) {k : Nat} (hk : k < n) (x y : Int) : HT w1 ((W.setCell ⟨OB, k * 2, none⟩ (.int .i64 x)).setCell ⟨OB, k * 2 + 1, none⟩ (.int .i64 y)) GB OB n mg vg gz (fun i => if i = k then (x, y) else c i) := by
  obtain ⟨b1, b2, b3⟩ := h.b
  have c0 := (h.f.cl 0 (by omega)).1.1
  rw [Nat.zero_mul] at c0
  refine ⟨(h.gr.set b2 _ _).set b2 _ _, (h.a.skip b3 _ _).skip b3 _ _, ⟨?_, h.z.2⟩, h.f.put hk (x, y), h.b⟩
  have p1 := h.z.1.setI (j := k * 2) c0 (.int .i64 x) rfl
  by_cases e : k = 0
  · subst e
    exact p1.setI (x := x) (by rw [Nat.zero_mul]; simp [go_sem, c0]) (.int .i64 y) rfl
  · exact p1.setI (x := (c 0).1) (by have : ¬ k * 2 = 0 := by omega
                                     simp [go_sem, c0]) (.int .i64 y) rfl
set_option maxRecDepth 4000 in
set_option maxHeartbeats 16000000 in
theorem sheights_any (g : Nat → Addr) (w : World) {HB n : Nat} {ms : Nat → Bool} {us : Nat → Value} {H : Nat → Int} {mo : Bool} {vo : Value} {ov : Int} (h : LV w HB n ms us H mo vo ov) (hn : 1 ≤ n ∧ n ≤ 20) (ho : ¬ ov = 0) (base : Int) (hb : -1048576 ≤ base ∧ base ≤ 1048576) (l1 : ov.natAbs < wlid) (l2 : (base * ov).natAbs < wlid) (l3 : ∀ j, j < n → (H j).natAbs < wlid) (l4 : ∀ j, j < n → (base * ov + H j).natAbs < wlid) (hl : Laid w g) : Calls Tryd.prog 21 #[.agg #[.slice (some ⟨HB, 0, none⟩) n n, .bool mo, vo], .int .i64 base] w fun e w' => ((∃ OB, e = .returned (.tuple #[.slice (some ⟨OB, 0, none⟩) n n, .nilIface]) ∧ (∀ j, j < n → qe g (base * ov + H j) ov = .nilIface) ∧ FB2 w' OB n (fun j => (qx (base * ov + H j) ov, qy (base * ov + H j) ov)) ∧ w.heap.size ≤ OB) ∨ ((∃ j, j < n ∧ ¬ qe g (base * ov + H j) ov = .nilIface) ∧ e = .returned (.tuple #[.slice none 0 0, errV g 1]))) ∧ Gr w w' := by
  have HL1 := hidb l1
  have HL2 := hidb l2
  have HL3 := hidb l3
  have HL4 := hidb l4
  have HO := hidb ho
  have HN := hidb hn
  have HOf := hidb (fun w => of_any (n := base) (by omega) (by omega) w)
  have HBl : Hid (base.natAbs < wlid) := Nat.lt_of_lt_of_le (show base.natAbs < 1048577 by omega) (show 1048577 ≤ wlid by decide +kernel)
  obtain ⟨ado, Lo, cpo, rfl⟩ := h.o.form
  obtain ⟨XB, hXB⟩ : ∃ z, z = w.heap.size := ⟨_, rfl⟩
  have PX : Hid (At (w.alloc (.cells #[.slice (some ⟨HB, 0, none⟩) n n, .bool mo, .slice ado Lo cpo] 67)) XB [.slice (some ⟨HB, 0, none⟩) n n, .bool mo, .slice ado Lo cpo] ∧ Gr w (w.alloc (.cells #[.slice (some ⟨HB, 0, none⟩) n n, .bool mo, .slice ado Lo cpo] 67))) := ⟨At.at3 hXB _ _ _ _, (Gr.refl w).alloc _⟩
  have HLw := hidb h
  have HLa0 := hidb hl
  obtain ⟨CF, hCF, mkF⟩ := made_runFr n (by omega)
  clear h hn ho hb l1 l2 l3 l4 hl
  go_enter Tryd.func21, Tryd.ntmps21
  go_upto_region 1 with fail
  rw [← hXB]
  generalize w.alloc (.cells #[.slice (some ⟨HB, 0, none⟩) n n, .bool mo, .slice ado Lo cpo] 67) = w1 at *
  generalize hvo : Value.slice ado Lo cpo = vo at *
  have HCx : Hid (∀ W', Gr w1 W' → (fun w' => (w'.cell? ⟨XB, 0, none⟩ = some (.slice (some ⟨HB, 0, none⟩) n n) ∧ w'.cell? ⟨XB, 1, none⟩ = some (.bool mo) ∧ w'.cell? ⟨XB, 2, none⟩ = some vo)) W') := fun W' hG => (At.below hG.out PX.out.1).c3
  have HLv : Hid (∀ W', Gr w1 W' → LV W' HB n ms us H mo vo ov) := fun W' hG => HLw.out.below (Gr.step PX.out.2 hG.out).out
  have HLa : Hid (∀ W', Gr w1 W' → Laid W' g) := fun W' hG => HLa0.out.below (Gr.step PX.out.2 hG.out).out
  have GG : Hid (Gr w1 w1) := Gr.refl _
  have Hvo : Hid (∃ a b c, vo = Value.slice a b c) := ⟨_, _, _, hvo.symm⟩
  have HXw : Hid (w.heap.size ≤ w1.heap.size) := PX.out.2.out.size
  clear hXB HLw HLa0 hvo
  refine wp_region_held_drew (S := (fun w' => (w'.cell? ⟨XB, 0, none⟩ = some (.slice (some ⟨HB, 0, none⟩) n n) ∧ w'.cell? ⟨XB, 1, none⟩ = some (.bool mo) ∧ w'.cell? ⟨XB, 2, none⟩ = some vo))) (by kernel_rfl) ?_ (fun hHeld => ?_)
  · (try dsimp only); exact HCx.out _ GG.out.drew
  replace GG := hidb GG.out.drew
  generalize w1.drew = V at *
  refine wpAnyH_take (i := 0) (v := ?vh1q0x4) rfl (by kernel_rfl) (by kernel_rfl) (by kernel_rfl) (fun _ _ _ h => h) (Or.inl ⟨by kernel_rfl, ?hh1q0x4⟩) (by assumption) ?rh1q0x4
  case hh1q0x4 => (intro w hSw; (try dsimp only at hSw); obtain ⟨z0, z1, z2⟩ := hSw; go_simp; try with_reducible rfl)
  (try simp only [Act.put, List.getElem_toArray, List.getElem_cons_zero, List.setIfInBounds_toArray, List.set_cons_zero, List.set_cons_succ])
  refine wpAnyH_take (i := 2) (v := ?vh1q2x7) rfl (by kernel_rfl) (by kernel_rfl) (by kernel_rfl) (fun _ _ _ h => h) (Or.inl ⟨by kernel_rfl, ?hh1q2x7⟩) (by assumption) ?rh1q2x7
  case hh1q2x7 => (intro w hSw; (try dsimp only at hSw); obtain ⟨z0, z1, z2⟩ := hSw; go_simp; try with_reducible rfl)
  (try simp only [Act.put, List.getElem_toArray, List.getElem_cons_zero, List.getElem_cons_succ, List.setIfInBounds_toArray, List.set_cons_zero, List.set_cons_succ])
  refine wpAnyH_take (i := 3) (v := ?vh1q3x10) rfl (by kernel_rfl) (by kernel_rfl) (by kernel_rfl) (fun _ _ _ h => h) (Or.inl ⟨by kernel_rfl, ?hh1q3x10⟩) (by assumption) ?rh1q3x10
  case hh1q3x10 => (intro w hSw; (try dsimp only at hSw); obtain ⟨z0, z1, z2⟩ := hSw; go_simp; try with_reducible rfl)
  (try simp only [Act.put, List.getElem_toArray, List.getElem_cons_zero, List.getElem_cons_succ, List.setIfInBounds_toArray, List.set_cons_zero, List.set_cons_succ])
  refine wpAnyH_ready (rs := [1, 5]) (by kernel_rfl) (by simp) ?_
  refine AllReadyH.cons rfl (fun K hK => ?_) (AllReadyH.cons rfl (fun K hK => ?_) AllReadyH.nil)
  · skip
    go_simp
    go_wp2_with (go_at_call 30; refine (HOf.out _).mono ?_; rintro e Vo ⟨m1, x1, rfl, k1, k2, -⟩)
    refine hK.out _ _ ?_ (fun hHeld => ?_)
    · (try dsimp only); exact HCx.out _ (Gr.step GG.out k2)
    clear hK K
    replace GG := hidb (Gr.step GG.out k2)
    have K1 := hidb k1
    clear k1 k2
    refine wpAnyH_ready (rs := [4, 5]) (by kernel_rfl) (by simp) ?_
    refine AllReadyH.cons rfl (fun K hK => ?_) (AllReadyH.cons rfl (fun K hK => ?_) AllReadyH.nil)
    · skip
      go_simp
      go_wp2_with (go_at_call 32; refine (times_nm HBl.out HL1.out K1.out (HLv.out _ GG.out).o).mono ?_; rintro e Vot ⟨mg, vg, rfl, k1, k2, -⟩)
      refine hK.out _ _ ?_ (fun hHeld => ?_)
      · (try dsimp only); exact HCx.out _ (Gr.step GG.out k2)
      clear hK K
      replace GG := hidb (Gr.step GG.out k2)
      have K4 := hidb k1
      clear k1 k2 K1
      obtain ⟨adg, Lg, cpg, rfl⟩ := K4.out.form
      refine wpAnyH_ready (rs := [5]) (by kernel_rfl) (by simp) ?_
      refine AllReadyH.cons rfl (fun K hK => ?_) AllReadyH.nil
      go_simp
      refine hK.out _ _ ?_ (fun hHeld => ?_)
      · (try dsimp only); exact HCx.out _ (GG.out.alloc _)
      clear hK K
      have AG := hidb (At.new2 Vot (.bool false) (.slice none 0 0) 65)
      have HGb : Hid (w1.heap.size ≤ Vot.heap.size) := GG.out.out.size
      replace K4 := hidb (K4.out.below ((Below.refl _ _).alloc (Nat.le_refl _) (.cells #[.bool false, .slice none 0 0] 65)))
      replace GG := hidb (GG.out.alloc (.cells #[.bool false, .slice none 0 0] 65))
      obtain ⟨GB, hGB⟩ : ∃ z, z = Vot.heap.size := ⟨_, rfl⟩
      rw [← hGB] at AG HGb ⊢
      generalize Vot.alloc (.cells #[.bool false, .slice none 0 0] 65) = Vota at *
      clear hGB
      refine wpAnyH_ready (rs := [6]) (by kernel_rfl) (by simp) ?_
      refine AllReadyH.cons rfl (fun K hK => ?_) AllReadyH.nil
      obtain ⟨d0, d1⟩ := AG.out.c2
      have f0 := (AG.out.1 0 (by simp)).2
      have f1 := (AG.out.1 1 (by simp)).2
      go_simp
      refine hK.out _ _ ?_ (fun hHeld => ?_)
      · (try dsimp only); exact HCx.out _ ((GG.out.set HGb.out _ _).set HGb.out _ _)
      clear hK K
      clear d0 d1 f0 f1
      refine wpAnyH_done (by kernel_rfl) ?_ _
      generalize hvg : Value.slice adg Lg cpg = vg at *
      clear hvg
      have E0 : Hid (Gr w1 ((Vota.setCell ⟨GB, 0, none⟩ (.bool mg)).setCell ⟨GB, 1, none⟩ vg) ∧ At ((Vota.setCell ⟨GB, 0, none⟩ (.bool mg)).setCell ⟨GB, 1, none⟩ vg) GB [.bool mg, vg] ∧ Nm ((Vota.setCell ⟨GB, 0, none⟩ (.bool mg)).setCell ⟨GB, 1, none⟩ vg) mg vg (base * ov)) :=
        ⟨(GG.out.set HGb.out _ _).set HGb.out _ _, (AG.out.put 0 _).put 1 _, K4.out.1.setS2 AG.out _, K4.out.2⟩
      clear GG AG K4
      generalize (Vota.setCell ⟨GB, 0, none⟩ (.bool mg)).setCell ⟨GB, 1, none⟩ vg = W2 at *
      obtain ⟨z0, z1, z2⟩ := HCx.out _ E0.out.1
      go_upto_region 2 with fail
      go_upto_region 3 with fail
      obtain ⟨OB, hOB⟩ : ∃ z, z = W2.heap.size := ⟨_, rfl⟩
      have A1 := At.newArr W2 CF 50
      rw [hCF, ← hOB] at A1
      rw [← hOB]
      have E1 : Hid (HT w1 (W2.alloc (.cells CF 50)) GB OB n mg vg (base * ov) (fun i => if i < 0 then (qx (base * ov + H i) ov, qy (base * ov + H i) ov) else (0, 0))) :=
        ⟨E0.out.1.alloc _, E0.out.2.1.alloc _, E0.out.2.2.below ((Below.refl _ _).alloc (Nat.le_refl _) _), (FB2.of A1).congr (fun i hi => by rw [if_neg (by omega)]), HGb.out, by have := E0.out.1.out.size; omega, by have := E0.out.2.1.lt; omega⟩
      generalize W2.alloc (.cells CF 50) = W3 at *
      clear E0 A1 hOB z0 z1 z2 HGb
      obtain ⟨z0, z1, z2⟩ := HCx.out _ E1.out.gr
      go_wp2
      clear z0 z1 z2
      go_loopw [23] (fun t wr => ∃ k : Nat, k ≤ n ∧ t = .int .i64 (k : Int) ∧ Hid (HT w1 wr GB OB n mg vg (base * ov) (fun i => if i < k then (qx (base * ov + H i) ov, qy (base * ov + H i) ov) else (0, 0)) ∧ ∀ j, j < k → qe g (base * ov + H j) ov = .nilIface)) (fun t _ => n - (intOf t).toNat)
      case atStart => exact ⟨0, Nat.zero_le _, rfl, hidb ⟨E1.out, fun j hj => by omega⟩⟩
      case round =>
        clear E1
        obtain ⟨k, hk, rfl, E⟩ := hrel
        by_cases h1 : ¬ k < n
        · have h1' : ¬ (k : Int) < (n : Int) := by omega
          have HZ : Hid ((∀ j, j < n → qe g (base * ov + H j) ov = .nilIface) ∧ FB2 wr OB n (fun j => (qx (base * ov + H j) ov, qy (base * ov + H j) ov)) ∧ w.heap.size ≤ OB ∧ Gr w wr) := ⟨fun j hj => E.out.2 j (by omega), E.out.1.f.congr (fun i hi => by rw [if_pos (by omega)]), by have := E.out.1.b.2.1; have := HXw.out; omega, Gr.step PX.out.2 E.out.1.gr.out⟩
          clear h1 hk E
          go_wp2
          exact bodyPost_ret (v := .tuple #[.slice (some ⟨OB, 0, none⟩) n n, .nilIface]) (by simp [results, Tryd.results21, go_sem]) rfl ⟨.inl ⟨OB, rfl, HZ.out.1, HZ.out.2.1, HZ.out.2.2.1⟩, HZ.out.2.2.2⟩
        · have h1' : (k : Int) < (n : Int) := by omega
          have H1 := hidb (show k < n by omega)
          have e9 : IntKind.i64.wrap ((k : Int) + 1) = ((k + 1 : Nat) : Int) := by rw [show (k : Int) + 1 = ((k + 1 : Nat) : Int) by omega]; exact wr_in (by omega) (by have := HN.out; omega)
          have ix := nuindex HB 0 n n k H1.out
          rw [Nat.zero_add] at ix
          obtain ⟨c0, c1⟩ := (HLv.out _ E.out.1.gr).c k H1.out
          have HNh := hidb ((HLv.out _ E.out.1.gr).z k H1.out)
          generalize ms k = mh at *
          generalize us k = vh at *
          obtain ⟨adh, Lh, cph, rfl⟩ := HNh.out.form
          have AR := hidb (At.new2 wr (.bool mh) (.slice adh Lh cph) 65)
          have E2 := hidb (E.out.1.below ((Below.refl _ _).alloc (Nat.le_refl _) (.cells #[.bool mh, .slice adh Lh cph] 65)))
          replace HNh := hidb (HNh.out.below ((Below.refl _ _).alloc (Nat.le_refl _) (.cells #[.bool mh, .slice adh Lh cph] 65)))
          have HQ := hidb E.out.2
          have hob := E.out.1.f.lt
          clear h1 hk E
          go_upto_region 7 with fail
          clear c0 c1 ix
          obtain ⟨NB, hNB⟩ : ∃ z, z = wr.heap.size := ⟨_, rfl⟩
          rw [← hNB] at AR hob ⊢
          generalize wr.alloc (.cells #[.bool mh, .slice adh Lh cph] 65) = W4 at *
          generalize hvh : Value.slice adh Lh cph = vh at *
          clear hNB hvh
          have GG := hidb (Gr.refl W4)
          have HCy : Hid (∀ W', Gr W4 W' → (fun w' => (w'.cell? ⟨GB, 0, none⟩ = some (.bool mg) ∧ w'.cell? ⟨GB, 1, none⟩ = some vg) ∧ (w'.cell? ⟨NB, 0, none⟩ = some (.bool mh) ∧ w'.cell? ⟨NB, 1, none⟩ = some vh) ∧ (w'.cell? ⟨XB, 0, none⟩ = some (.slice (some ⟨HB, 0, none⟩) n n) ∧ w'.cell? ⟨XB, 1, none⟩ = some (.bool mo) ∧ w'.cell? ⟨XB, 2, none⟩ = some vo)) W') := fun W' hG => ⟨(At.below hG.out E2.out.a).c2, (At.below hG.out AR.out).c2, HCx.out _ (Gr.step E2.out.gr hG.out)⟩
          have ixo := frindex OB n n k H1.out
          have hne : ¬ OB = NB := by omega
          have HCz : Hid (∀ V x y, Gr W4 V → (fun w' => (w'.cell? ⟨GB, 0, none⟩ = some (.bool mg) ∧ w'.cell? ⟨GB, 1, none⟩ = some vg) ∧ (w'.cell? ⟨NB, 0, none⟩ = some (.bool mh) ∧ w'.cell? ⟨NB, 1, none⟩ = some vh) ∧ (w'.cell? ⟨XB, 0, none⟩ = some (.slice (some ⟨HB, 0, none⟩) n n) ∧ w'.cell? ⟨XB, 1, none⟩ = some (.bool mo) ∧ w'.cell? ⟨XB, 2, none⟩ = some vo)) ((V.setCell ⟨OB, k * 2, none⟩ (.int .i64 x)).setCell ⟨OB, k * 2 + 1, none⟩ (.int .i64 y))) := fun V x y hG => ⟨((E2.out.below hG.out).put H1.out x y).a.c2, (((At.below hG.out AR.out).skip hne _ _).skip hne _ _).c2, HCx.out _ ((E2.out.below hG.out).put H1.out x y).gr⟩
          clear hob hne
          refine wp_region_held_drew (S := (fun w' => (w'.cell? ⟨GB, 0, none⟩ = some (.bool mg) ∧ w'.cell? ⟨GB, 1, none⟩ = some vg) ∧ (w'.cell? ⟨NB, 0, none⟩ = some (.bool mh) ∧ w'.cell? ⟨NB, 1, none⟩ = some vh) ∧ (w'.cell? ⟨XB, 0, none⟩ = some (.slice (some ⟨HB, 0, none⟩) n n) ∧ w'.cell? ⟨XB, 1, none⟩ = some (.bool mo) ∧ w'.cell? ⟨XB, 2, none⟩ = some vo))) (by kernel_rfl) ?_ (fun hHeld => ?_)
          · (try dsimp only); exact HCy.out _ GG.out.drew
          replace GG := hidb GG.out.drew
          generalize W4.drew = V0 at *
          refine wpAnyH_take (i := 0) (v := ?vh7q1z0x4) rfl (by kernel_rfl) (by kernel_rfl) (by kernel_rfl) (fun _ _ _ h => h) (Or.inl ⟨by kernel_rfl, ?hh7q1z0x4⟩) (by assumption) ?rh7q1z0x4
          case hh7q1z0x4 => (intro w hSw; (try dsimp only at hSw); obtain ⟨⟨g0, g1⟩, ⟨h0, h1⟩, z0, z1, z2⟩ := hSw; go_simp; try with_reducible rfl)
          (try simp only [Act.put, List.getElem_toArray, List.getElem_cons_zero, List.setIfInBounds_toArray, List.set_cons_zero, List.set_cons_succ])
          refine wpAnyH_take (i := 1) (v := ?vh7q1z1x7) rfl (by kernel_rfl) (by kernel_rfl) (by kernel_rfl) (fun _ _ _ h => h) (Or.inl ⟨by kernel_rfl, ?hh7q1z1x7⟩) (by assumption) ?rh7q1z1x7
          case hh7q1z1x7 => (intro w hSw; (try dsimp only at hSw); obtain ⟨⟨g0, g1⟩, ⟨h0, h1⟩, z0, z1, z2⟩ := hSw; go_simp; try with_reducible rfl)
          (try simp only [Act.put, List.getElem_toArray, List.getElem_cons_zero, List.getElem_cons_succ, List.setIfInBounds_toArray, List.set_cons_zero, List.set_cons_succ])
          refine wpAnyH_take (i := 2) (v := ?vh7q1z2x10) rfl (by kernel_rfl) (by kernel_rfl) (by kernel_rfl) (fun _ _ _ h => h) (Or.inl ⟨by kernel_rfl, ?hh7q1z2x10⟩) (by assumption) ?rh7q1z2x10
          case hh7q1z2x10 => (intro w hSw; (try dsimp only at hSw); obtain ⟨⟨g0, g1⟩, ⟨h0, h1⟩, z0, z1, z2⟩ := hSw; go_simp; try with_reducible rfl)
          (try simp only [Act.put, List.getElem_toArray, List.getElem_cons_zero, List.getElem_cons_succ, List.setIfInBounds_toArray, List.set_cons_zero, List.set_cons_succ])
          refine wpAnyH_take (i := 3) (v := ?vh7q1z3x13) rfl (by kernel_rfl) (by kernel_rfl) (by kernel_rfl) (fun _ _ _ h => h) (Or.inl ⟨by kernel_rfl, ?hh7q1z3x13⟩) (by assumption) ?rh7q1z3x13
          case hh7q1z3x13 => (intro w hSw; (try dsimp only at hSw); obtain ⟨⟨g0, g1⟩, ⟨h0, h1⟩, z0, z1, z2⟩ := hSw; go_simp; try with_reducible rfl)
          (try simp only [Act.put, List.getElem_toArray, List.getElem_cons_zero, List.getElem_cons_succ, List.setIfInBounds_toArray, List.set_cons_zero, List.set_cons_succ])
          refine wpAnyH_take (i := 5) (v := ?vh7q1z5x16) rfl (by kernel_rfl) (by kernel_rfl) (by kernel_rfl) (fun _ _ _ h => h) (Or.inl ⟨by kernel_rfl, ?hh7q1z5x16⟩) (by assumption) ?rh7q1z5x16
          case hh7q1z5x16 => (intro w hSw; (try dsimp only at hSw); obtain ⟨⟨g0, g1⟩, ⟨h0, h1⟩, z0, z1, z2⟩ := hSw; go_simp; try with_reducible rfl)
          (try simp only [Act.put, List.getElem_toArray, List.getElem_cons_zero, List.getElem_cons_succ, List.setIfInBounds_toArray, List.set_cons_zero, List.set_cons_succ])
          refine wpAnyH_take (i := 6) (v := ?vh7q1z6x19) rfl (by kernel_rfl) (by kernel_rfl) (by kernel_rfl) (fun _ _ _ h => h) (Or.inl ⟨by kernel_rfl, ?hh7q1z6x19⟩) (by assumption) ?rh7q1z6x19
          case hh7q1z6x19 => (intro w hSw; (try dsimp only at hSw); obtain ⟨⟨g0, g1⟩, ⟨h0, h1⟩, z0, z1, z2⟩ := hSw; go_simp; try with_reducible rfl)
          (try simp only [Act.put, List.getElem_toArray, List.getElem_cons_zero, List.getElem_cons_succ, List.setIfInBounds_toArray, List.set_cons_zero, List.set_cons_succ])
          refine wpAnyH_ready (rs := [4]) (by kernel_rfl) (by simp) ?_
          refine AllReadyH.cons rfl (fun K hK => ?_) AllReadyH.nil
          go_simp
          go_wp2_with (go_at_call 34; refine (plus_nm HL2.out (HL3.out k H1.out) (E2.out.z.below GG.out.out) (HNh.out.below GG.out.out)).mono ?_; rintro e V0p ⟨mp, vp, rfl, k1, k2, -⟩)
          refine hK.out _ _ ?_ (fun hHeld => ?_)
          · (try dsimp only); exact HCy.out _ (Gr.step GG.out k2)
          clear hK K
          replace GG := hidb (Gr.step GG.out k2)
          have K5 := hidb k1
          clear k1 k2
          refine wpAnyH_ready (rs := [7]) (by kernel_rfl) (by simp) ?_
          refine AllReadyH.cons rfl (fun K hK => ?_) AllReadyH.nil
          go_simp
          go_wp2_with (go_at_call 33; refine (frac_all g (HL4.out k H1.out) HL1.out HO.out K5.out (HLv.out _ (Gr.step E2.out.gr GG.out.out)).o (HLa.out _ (Gr.step E2.out.gr GG.out.out))).mono ?_; rintro e V0pf ⟨rfl, k2, -⟩)
          refine hK.out _ _ ?_ (fun hHeld => ?_)
          · (try dsimp only); exact HCy.out _ (Gr.step GG.out k2)
          clear hK K
          replace GG := hidb (Gr.step GG.out k2)
          clear k2 K5
          refine wpAnyH_take (i := 8) (v := ?vh7q1z8x41) rfl (by kernel_rfl) (by kernel_rfl) (by kernel_rfl) (fun _ _ _ h => h) (Or.inl ⟨by kernel_rfl, ?hh7q1z8x41⟩) (by assumption) ?rh7q1z8x41
          case hh7q1z8x41 => (intro w hSw; (try dsimp only at hSw); obtain ⟨⟨g0, g1⟩, ⟨h0, h1⟩, z0, z1, z2⟩ := hSw; go_simp; try with_reducible rfl)
          (try simp only [Act.put, List.getElem_toArray, List.getElem_cons_zero, List.getElem_cons_succ, List.setIfInBounds_toArray, List.set_cons_zero, List.set_cons_succ])
          refine wpAnyH_take (i := 9) (v := ?vh7q1z9x44) rfl (by kernel_rfl) (by kernel_rfl) (by kernel_rfl) (fun _ _ _ h => h) (Or.inl ⟨by kernel_rfl, ?hh7q1z9x44⟩) (by assumption) ?rh7q1z9x44
          case hh7q1z9x44 => (intro w hSw; (try dsimp only at hSw); obtain ⟨⟨g0, g1⟩, ⟨h0, h1⟩, z0, z1, z2⟩ := hSw; go_simp; try with_reducible rfl)
          (try simp only [Act.put, List.getElem_toArray, List.getElem_cons_zero, List.getElem_cons_succ, List.setIfInBounds_toArray, List.set_cons_zero, List.set_cons_succ])
          refine wpAnyH_take (i := 10) (v := ?vh7q1z10x47) rfl (by kernel_rfl) (by kernel_rfl) (by kernel_rfl) (fun _ _ _ h => h) (Or.inl ⟨by kernel_rfl, ?hh7q1z10x47⟩) (by assumption) ?rh7q1z10x47
          case hh7q1z10x47 => (intro w hSw; (try dsimp only at hSw); obtain ⟨⟨g0, g1⟩, ⟨h0, h1⟩, z0, z1, z2⟩ := hSw; go_simp; try with_reducible rfl)
          (try simp only [Act.put, List.getElem_toArray, List.getElem_cons_zero, List.getElem_cons_succ, List.setIfInBounds_toArray, List.set_cons_zero, List.set_cons_succ])
          refine wpAnyH_take (i := 11) (v := ?vh7q1z11x50) rfl (by kernel_rfl) (by kernel_rfl) (by kernel_rfl) (fun _ _ _ h => h) (Or.inl ⟨by kernel_rfl, ?hh7q1z11x50⟩) (by assumption) ?rh7q1z11x50
          case hh7q1z11x50 => (intro w hSw; (try dsimp only at hSw); obtain ⟨⟨g0, g1⟩, ⟨h0, h1⟩, z0, z1, z2⟩ := hSw; go_simp; try with_reducible rfl)
          (try simp only [Act.put, List.getElem_toArray, List.getElem_cons_zero, List.getElem_cons_succ, List.setIfInBounds_toArray, List.set_cons_zero, List.set_cons_succ])
          refine wpAnyH_ready (rs := [12]) (by kernel_rfl) (by simp) ?_
          refine AllReadyH.cons rfl (fun K hK => ?_) AllReadyH.nil
          obtain ⟨⟨d0, d1⟩, f0, f1⟩ := (E2.out.f.below GG.out.out).cl k H1.out
          go_simp
          refine hK.out _ _ ?_ (fun hHeld => ?_)
          · (try dsimp only); exact HCz.out _ _ _ GG.out
          clear hK K
          clear d0 d1 f0 f1
          refine wpAnyH_take (i := 13) (v := ?vh7q1z13x61) rfl (by kernel_rfl) (by kernel_rfl) (by kernel_rfl) (fun _ _ _ h => h) (Or.inl ⟨by kernel_rfl, ?hh7q1z13x61⟩) (by assumption) ?rh7q1z13x61
          case hh7q1z13x61 => (intro w hSw; (try dsimp only at hSw); obtain ⟨⟨g0, g1⟩, ⟨h0, h1⟩, z0, z1, z2⟩ := hSw; go_simp; try with_reducible rfl)
          (try simp only [Act.put, List.getElem_toArray, List.getElem_cons_zero, List.getElem_cons_succ, List.setIfInBounds_toArray, List.set_cons_zero, List.set_cons_succ])
          refine wpAnyH_done (by kernel_rfl) ?_ _
          have E5 := hidb ((E2.out.below GG.out.out).put H1.out (qx (base * ov + H k) ov) (qy (base * ov + H k) ov))
          clear GG E2 HCz HCy AR HNh ixo
          rcases qe_or g (base * ov + H k) ov with hq | hq
          · have E6 : Hid (HT w1 ((V0pf.setCell ⟨OB, k * 2, none⟩ (.int .i64 (qx (base * ov + H k) ov))).setCell ⟨OB, k * 2 + 1, none⟩ (.int .i64 (qy (base * ov + H k) ov))) GB OB n mg vg (base * ov) (fun i => if i < k + 1 then (qx (base * ov + H i) ov, qy (base * ov + H i) ov) else (0, 0)) ∧ ∀ j, j < k + 1 → qe g (base * ov + H j) ov = .nilIface) := by
              refine ⟨⟨E5.out.gr, E5.out.a, E5.out.z, E5.out.f.congr (fun i hi => ?_), E5.out.b⟩, fun j hj => ?_⟩
              · by_cases e : i = k
                · rw [if_pos e, if_pos (by omega), e]
                · rw [if_neg e]
                  by_cases e2 : i < k
                  · rw [if_pos e2, if_pos (by omega)]
                  · rw [if_neg e2, if_neg (by omega)]
              · by_cases e : j = k
                · rw [e]; exact hq
                · exact HQ.out j (by omega)
            rw [hq]
            clear E5 HQ hq
            generalize (V0pf.setCell ⟨OB, k * 2, none⟩ (.int .i64 (qx (base * ov + H k) ov))).setCell ⟨OB, k * 2 + 1, none⟩ (.int .i64 (qy (base * ov + H k) ov)) = W5 at *
            go_wp2
            go_roundw
            case rel => exact ⟨k + 1, H1.out, by go_num, E6⟩
            case measure => have := H1.out; simp [intOf]; omega
          · have HZ : Hid ((∃ j, j < n ∧ ¬ qe g (base * ov + H j) ov = .nilIface) ∧ Gr w ((V0pf.setCell ⟨OB, k * 2, none⟩ (.int .i64 (qx (base * ov + H k) ov))).setCell ⟨OB, k * 2 + 1, none⟩ (.int .i64 (qy (base * ov + H k) ov)))) := ⟨⟨k, H1.out, by rw [hq]; unfold errV; exact fun e => by cases e⟩, Gr.step PX.out.2 E5.out.gr.out⟩
            rw [hq]
            unfold errV
            clear E5 HQ hq
            generalize (V0pf.setCell ⟨OB, k * 2, none⟩ (.int .i64 (qx (base * ov + H k) ov))).setCell ⟨OB, k * 2 + 1, none⟩ (.int .i64 (qy (base * ov + H k) ov)) = W5 at *
            go_wp2
            exact bodyPost_ret (v := .tuple #[.slice none 0 0, errV g 1]) (by unfold errV; simp [results, Tryd.results21, go_sem]) rfl ⟨.inr ⟨HZ.out.1, rfl⟩, HZ.out.2⟩
    · skip
      go_simp
      refine hK.out _ _ ?_ (fun hHeld => ?_)
      · (try dsimp only); exact HCx.out _ (GG.out.alloc _)
      clear hK K
      have AG := hidb (At.new2 Vo (.bool false) (.slice none 0 0) 65)
      have HGb : Hid (w1.heap.size ≤ Vo.heap.size) := GG.out.out.size
      replace K1 := hidb (K1.out.below ((Below.refl _ _).alloc (Nat.le_refl _) (.cells #[.bool false, .slice none 0 0] 65)))
      replace GG := hidb (GG.out.alloc (.cells #[.bool false, .slice none 0 0] 65))
      obtain ⟨GB, hGB⟩ : ∃ z, z = Vo.heap.size := ⟨_, rfl⟩
      rw [← hGB] at AG HGb ⊢
      generalize Vo.alloc (.cells #[.bool false, .slice none 0 0] 65) = Voa at *
      clear hGB
      refine wpAnyH_ready (rs := [4]) (by kernel_rfl) (by simp) ?_
      refine AllReadyH.cons rfl (fun K hK => ?_) AllReadyH.nil
      go_simp
      go_wp2_with (go_at_call 32; refine (times_nm HBl.out HL1.out K1.out (HLv.out _ GG.out).o).mono ?_; rintro e Voat ⟨mg, vg, rfl, k1, k2, -⟩)
      refine hK.out _ _ ?_ (fun hHeld => ?_)
      · (try dsimp only); exact HCx.out _ (Gr.step GG.out k2)
      clear hK K
      replace GG := hidb (Gr.step GG.out k2)
      have K4 := hidb k1
      replace AG := hidb (At.below k2 AG.out)
      clear k1 k2 K1
      obtain ⟨adg, Lg, cpg, rfl⟩ := K4.out.form
      refine wpAnyH_ready (rs := [6]) (by kernel_rfl) (by simp) ?_
      refine AllReadyH.cons rfl (fun K hK => ?_) AllReadyH.nil
      obtain ⟨d0, d1⟩ := AG.out.c2
      have f0 := (AG.out.1 0 (by simp)).2
      have f1 := (AG.out.1 1 (by simp)).2
      go_simp
      refine hK.out _ _ ?_ (fun hHeld => ?_)
      · (try dsimp only); exact HCx.out _ ((GG.out.set HGb.out _ _).set HGb.out _ _)
      clear hK K
      clear d0 d1 f0 f1
      refine wpAnyH_done (by kernel_rfl) ?_ _
      generalize hvg : Value.slice adg Lg cpg = vg at *
      clear hvg
      have E0 : Hid (Gr w1 ((Voat.setCell ⟨GB, 0, none⟩ (.bool mg)).setCell ⟨GB, 1, none⟩ vg) ∧ At ((Voat.setCell ⟨GB, 0, none⟩ (.bool mg)).setCell ⟨GB, 1, none⟩ vg) GB [.bool mg, vg] ∧ Nm ((Voat.setCell ⟨GB, 0, none⟩ (.bool mg)).setCell ⟨GB, 1, none⟩ vg) mg vg (base * ov)) :=
        ⟨(GG.out.set HGb.out _ _).set HGb.out _ _, (AG.out.put 0 _).put 1 _, K4.out.1.setS2 AG.out _, K4.out.2⟩
      clear GG AG K4
      generalize (Voat.setCell ⟨GB, 0, none⟩ (.bool mg)).setCell ⟨GB, 1, none⟩ vg = W2 at *
      obtain ⟨z0, z1, z2⟩ := HCx.out _ E0.out.1
      go_upto_region 2 with fail
      go_upto_region 3 with fail
      obtain ⟨OB, hOB⟩ : ∃ z, z = W2.heap.size := ⟨_, rfl⟩
      have A1 := At.newArr W2 CF 50
      rw [hCF, ← hOB] at A1
      rw [← hOB]
      have E1 : Hid (HT w1 (W2.alloc (.cells CF 50)) GB OB n mg vg (base * ov) (fun i => if i < 0 then (qx (base * ov + H i) ov, qy (base * ov + H i) ov) else (0, 0))) :=
        ⟨E0.out.1.alloc _, E0.out.2.1.alloc _, E0.out.2.2.below ((Below.refl _ _).alloc (Nat.le_refl _) _), (FB2.of A1).congr (fun i hi => by rw [if_neg (by omega)]), HGb.out, by have := E0.out.1.out.size; omega, by have := E0.out.2.1.lt; omega⟩
      generalize W2.alloc (.cells CF 50) = W3 at *
      clear E0 A1 hOB z0 z1 z2 HGb
      obtain ⟨z0, z1, z2⟩ := HCx.out _ E1.out.gr
      go_wp2
      clear z0 z1 z2
      go_loopw [23] (fun t wr => ∃ k : Nat, k ≤ n ∧ t = .int .i64 (k : Int) ∧ Hid (HT w1 wr GB OB n mg vg (base * ov) (fun i => if i < k then (qx (base * ov + H i) ov, qy (base * ov + H i) ov) else (0, 0)) ∧ ∀ j, j < k → qe g (base * ov + H j) ov = .nilIface)) (fun t _ => n - (intOf t).toNat)
      case atStart => exact ⟨0, Nat.zero_le _, rfl, hidb ⟨E1.out, fun j hj => by omega⟩⟩
      case round =>
        clear E1
        obtain ⟨k, hk, rfl, E⟩ := hrel
        by_cases h1 : ¬ k < n
        · have h1' : ¬ (k : Int) < (n : Int) := by omega
          have HZ : Hid ((∀ j, j < n → qe g (base * ov + H j) ov = .nilIface) ∧ FB2 wr OB n (fun j => (qx (base * ov + H j) ov, qy (base * ov + H j) ov)) ∧ w.heap.size ≤ OB ∧ Gr w wr) := ⟨fun j hj => E.out.2 j (by omega), E.out.1.f.congr (fun i hi => by rw [if_pos (by omega)]), by have := E.out.1.b.2.1; have := HXw.out; omega, Gr.step PX.out.2 E.out.1.gr.out⟩
          clear h1 hk E
          go_wp2
          exact bodyPost_ret (v := .tuple #[.slice (some ⟨OB, 0, none⟩) n n, .nilIface]) (by simp [results, Tryd.results21, go_sem]) rfl ⟨.inl ⟨OB, rfl, HZ.out.1, HZ.out.2.1, HZ.out.2.2.1⟩, HZ.out.2.2.2⟩
        · have h1' : (k : Int) < (n : Int) := by omega
          have H1 := hidb (show k < n by omega)
          have e9 : IntKind.i64.wrap ((k : Int) + 1) = ((k + 1 : Nat) : Int) := by rw [show (k : Int) + 1 = ((k + 1 : Nat) : Int) by omega]; exact wr_in (by omega) (by have := HN.out; omega)
          have ix := nuindex HB 0 n n k H1.out
          rw [Nat.zero_add] at ix
          obtain ⟨c0, c1⟩ := (HLv.out _ E.out.1.gr).c k H1.out
          have HNh := hidb ((HLv.out _ E.out.1.gr).z k H1.out)
          generalize ms k = mh at *
          generalize us k = vh at *
          obtain ⟨adh, Lh, cph, rfl⟩ := HNh.out.form
          have AR := hidb (At.new2 wr (.bool mh) (.slice adh Lh cph) 65)
          have E2 := hidb (E.out.1.below ((Below.refl _ _).alloc (Nat.le_refl _) (.cells #[.bool mh, .slice adh Lh cph] 65)))
          replace HNh := hidb (HNh.out.below ((Below.refl _ _).alloc (Nat.le_refl _) (.cells #[.bool mh, .slice adh Lh cph] 65)))
          have HQ := hidb E.out.2
          have hob := E.out.1.f.lt
          clear h1 hk E
          go_upto_region 7 with fail
          clear c0 c1 ix
          obtain ⟨NB, hNB⟩ : ∃ z, z = wr.heap.size := ⟨_, rfl⟩
          rw [← hNB] at AR hob ⊢
          generalize wr.alloc (.cells #[.bool mh, .slice adh Lh cph] 65) = W4 at *
          generalize hvh : Value.slice adh Lh cph = vh at *
          clear hNB hvh
          have GG := hidb (Gr.refl W4)
          have HCy : Hid (∀ W', Gr W4 W' → (fun w' => (w'.cell? ⟨GB, 0, none⟩ = some (.bool mg) ∧ w'.cell? ⟨GB, 1, none⟩ = some vg) ∧ (w'.cell? ⟨NB, 0, none⟩ = some (.bool mh) ∧ w'.cell? ⟨NB, 1, none⟩ = some vh) ∧ (w'.cell? ⟨XB, 0, none⟩ = some (.slice (some ⟨HB, 0, none⟩) n n) ∧ w'.cell? ⟨XB, 1, none⟩ = some (.bool mo) ∧ w'.cell? ⟨XB, 2, none⟩ = some vo)) W') := fun W' hG => ⟨(At.below hG.out E2.out.a).c2, (At.below hG.out AR.out).c2, HCx.out _ (Gr.step E2.out.gr hG.out)⟩
          have ixo := frindex OB n n k H1.out
          have hne : ¬ OB = NB := by omega
          have HCz : Hid (∀ V x y, Gr W4 V → (fun w' => (w'.cell? ⟨GB, 0, none⟩ = some (.bool mg) ∧ w'.cell? ⟨GB, 1, none⟩ = some vg) ∧ (w'.cell? ⟨NB, 0, none⟩ = some (.bool mh) ∧ w'.cell? ⟨NB, 1, none⟩ = some vh) ∧ (w'.cell? ⟨XB, 0, none⟩ = some (.slice (some ⟨HB, 0, none⟩) n n) ∧ w'.cell? ⟨XB, 1, none⟩ = some (.bool mo) ∧ w'.cell? ⟨XB, 2, none⟩ = some vo)) ((V.setCell ⟨OB, k * 2, none⟩ (.int .i64 x)).setCell ⟨OB, k * 2 + 1, none⟩ (.int .i64 y))) := fun V x y hG => ⟨((E2.out.below hG.out).put H1.out x y).a.c2, (((At.below hG.out AR.out).skip hne _ _).skip hne _ _).c2, HCx.out _ ((E2.out.below hG.out).put H1.out x y).gr⟩
          clear hob hne
          refine wp_region_held_drew (S := (fun w' => (w'.cell? ⟨GB, 0, none⟩ = some (.bool mg) ∧ w'.cell? ⟨GB, 1, none⟩ = some vg) ∧ (w'.cell? ⟨NB, 0, none⟩ = some (.bool mh) ∧ w'.cell? ⟨NB, 1, none⟩ = some vh) ∧ (w'.cell? ⟨XB, 0, none⟩ = some (.slice (some ⟨HB, 0, none⟩) n n) ∧ w'.cell? ⟨XB, 1, none⟩ = some (.bool mo) ∧ w'.cell? ⟨XB, 2, none⟩ = some vo))) (by kernel_rfl) ?_ (fun hHeld => ?_)
          · (try dsimp only); exact HCy.out _ GG.out.drew
          replace GG := hidb GG.out.drew
          generalize W4.drew = V0 at *
          refine wpAnyH_take (i := 0) (v := ?vh7q2z0x4) rfl (by kernel_rfl) (by kernel_rfl) (by kernel_rfl) (fun _ _ _ h => h) (Or.inl ⟨by kernel_rfl, ?hh7q2z0x4⟩) (by assumption) ?rh7q2z0x4
          case hh7q2z0x4 => (intro w hSw; (try dsimp only at hSw); obtain ⟨⟨g0, g1⟩, ⟨h0, h1⟩, z0, z1, z2⟩ := hSw; go_simp; try with_reducible rfl)
          (try simp only [Act.put, List.getElem_toArray, List.getElem_cons_zero, List.setIfInBounds_toArray, List.set_cons_zero, List.set_cons_succ])
          refine wpAnyH_take (i := 1) (v := ?vh7q2z1x7) rfl (by kernel_rfl) (by kernel_rfl) (by kernel_rfl) (fun _ _ _ h => h) (Or.inl ⟨by kernel_rfl, ?hh7q2z1x7⟩) (by assumption) ?rh7q2z1x7
          case hh7q2z1x7 => (intro w hSw; (try dsimp only at hSw); obtain ⟨⟨g0, g1⟩, ⟨h0, h1⟩, z0, z1, z2⟩ := hSw; go_simp; try with_reducible rfl)
          (try simp only [Act.put, List.getElem_toArray, List.getElem_cons_zero, List.getElem_cons_succ, List.setIfInBounds_toArray, List.set_cons_zero, List.set_cons_succ])
          refine wpAnyH_take (i := 2) (v := ?vh7q2z2x10) rfl (by kernel_rfl) (by kernel_rfl) (by kernel_rfl) (fun _ _ _ h => h) (Or.inl ⟨by kernel_rfl, ?hh7q2z2x10⟩) (by assumption) ?rh7q2z2x10
          case hh7q2z2x10 => (intro w hSw; (try dsimp only at hSw); obtain ⟨⟨g0, g1⟩, ⟨h0, h1⟩, z0, z1, z2⟩ := hSw; go_simp; try with_reducible rfl)
          (try simp only [Act.put, List.getElem_toArray, List.getElem_cons_zero, List.getElem_cons_succ, List.setIfInBounds_toArray, List.set_cons_zero, List.set_cons_succ])
          refine wpAnyH_take (i := 3) (v := ?vh7q2z3x13) rfl (by kernel_rfl) (by kernel_rfl) (by kernel_rfl) (fun _ _ _ h => h) (Or.inl ⟨by kernel_rfl, ?hh7q2z3x13⟩) (by assumption) ?rh7q2z3x13
          case hh7q2z3x13 => (intro w hSw; (try dsimp only at hSw); obtain ⟨⟨g0, g1⟩, ⟨h0, h1⟩, z0, z1, z2⟩ := hSw; go_simp; try with_reducible rfl)
          (try simp only [Act.put, List.getElem_toArray, List.getElem_cons_zero, List.getElem_cons_succ, List.setIfInBounds_toArray, List.set_cons_zero, List.set_cons_succ])
          refine wpAnyH_take (i := 5) (v := ?vh7q2z5x16) rfl (by kernel_rfl) (by kernel_rfl) (by kernel_rfl) (fun _ _ _ h => h) (Or.inl ⟨by kernel_rfl, ?hh7q2z5x16⟩) (by assumption) ?rh7q2z5x16
          case hh7q2z5x16 => (intro w hSw; (try dsimp only at hSw); obtain ⟨⟨g0, g1⟩, ⟨h0, h1⟩, z0, z1, z2⟩ := hSw; go_simp; try with_reducible rfl)
          (try simp only [Act.put, List.getElem_toArray, List.getElem_cons_zero, List.getElem_cons_succ, List.setIfInBounds_toArray, List.set_cons_zero, List.set_cons_succ])
          refine wpAnyH_take (i := 6) (v := ?vh7q2z6x19) rfl (by kernel_rfl) (by kernel_rfl) (by kernel_rfl) (fun _ _ _ h => h) (Or.inl ⟨by kernel_rfl, ?hh7q2z6x19⟩) (by assumption) ?rh7q2z6x19
          case hh7q2z6x19 => (intro w hSw; (try dsimp only at hSw); obtain ⟨⟨g0, g1⟩, ⟨h0, h1⟩, z0, z1, z2⟩ := hSw; go_simp; try with_reducible rfl)
          (try simp only [Act.put, List.getElem_toArray, List.getElem_cons_zero, List.getElem_cons_succ, List.setIfInBounds_toArray, List.set_cons_zero, List.set_cons_succ])
          refine wpAnyH_ready (rs := [4]) (by kernel_rfl) (by simp) ?_
          refine AllReadyH.cons rfl (fun K hK => ?_) AllReadyH.nil
          go_simp
          go_wp2_with (go_at_call 34; refine (plus_nm HL2.out (HL3.out k H1.out) (E2.out.z.below GG.out.out) (HNh.out.below GG.out.out)).mono ?_; rintro e V0p ⟨mp, vp, rfl, k1, k2, -⟩)
          refine hK.out _ _ ?_ (fun hHeld => ?_)
          · (try dsimp only); exact HCy.out _ (Gr.step GG.out k2)
          clear hK K
          replace GG := hidb (Gr.step GG.out k2)
          have K5 := hidb k1
          clear k1 k2
          refine wpAnyH_ready (rs := [7]) (by kernel_rfl) (by simp) ?_
          refine AllReadyH.cons rfl (fun K hK => ?_) AllReadyH.nil
          go_simp
          go_wp2_with (go_at_call 33; refine (frac_all g (HL4.out k H1.out) HL1.out HO.out K5.out (HLv.out _ (Gr.step E2.out.gr GG.out.out)).o (HLa.out _ (Gr.step E2.out.gr GG.out.out))).mono ?_; rintro e V0pf ⟨rfl, k2, -⟩)
          refine hK.out _ _ ?_ (fun hHeld => ?_)
          · (try dsimp only); exact HCy.out _ (Gr.step GG.out k2)
          clear hK K
          replace GG := hidb (Gr.step GG.out k2)
          clear k2 K5
          refine wpAnyH_take (i := 8) (v := ?vh7q2z8x41) rfl (by kernel_rfl) (by kernel_rfl) (by kernel_rfl) (fun _ _ _ h => h) (Or.inl ⟨by kernel_rfl, ?hh7q2z8x41⟩) (by assumption) ?rh7q2z8x41
          case hh7q2z8x41 => (intro w hSw; (try dsimp only at hSw); obtain ⟨⟨g0, g1⟩, ⟨h0, h1⟩, z0, z1, z2⟩ := hSw; go_simp; try with_reducible rfl)
          (try simp only [Act.put, List.getElem_toArray, List.getElem_cons_zero, List.getElem_cons_succ, List.setIfInBounds_toArray, List.set_cons_zero, List.set_cons_succ])
          refine wpAnyH_take (i := 9) (v := ?vh7q2z9x44) rfl (by kernel_rfl) (by kernel_rfl) (by kernel_rfl) (fun _ _ _ h => h) (Or.inl ⟨by kernel_rfl, ?hh7q2z9x44⟩) (by assumption) ?rh7q2z9x44
          case hh7q2z9x44 => (intro w hSw; (try dsimp only at hSw); obtain ⟨⟨g0, g1⟩, ⟨h0, h1⟩, z0, z1, z2⟩ := hSw; go_simp; try with_reducible rfl)
          (try simp only [Act.put, List.getElem_toArray, List.getElem_cons_zero, List.getElem_cons_succ, List.setIfInBounds_toArray, List.set_cons_zero, List.set_cons_succ])
          refine wpAnyH_take (i := 10) (v := ?vh7q2z10x47) rfl (by kernel_rfl) (by kernel_rfl) (by kernel_rfl) (fun _ _ _ h => h) (Or.inl ⟨by kernel_rfl, ?hh7q2z10x47⟩) (by assumption) ?rh7q2z10x47
          case hh7q2z10x47 => (intro w hSw; (try dsimp only at hSw); obtain ⟨⟨g0, g1⟩, ⟨h0, h1⟩, z0, z1, z2⟩ := hSw; go_simp; try with_reducible rfl)
          (try simp only [Act.put, List.getElem_toArray, List.getElem_cons_zero, List.getElem_cons_succ, List.setIfInBounds_toArray, List.set_cons_zero, List.set_cons_succ])
          refine wpAnyH_take (i := 11) (v := ?vh7q2z11x50) rfl (by kernel_rfl) (by kernel_rfl) (by kernel_rfl) (fun _ _ _ h => h) (Or.inl ⟨by kernel_rfl, ?hh7q2z11x50⟩) (by assumption) ?rh7q2z11x50
          case hh7q2z11x50 => (intro w hSw; (try dsimp only at hSw); obtain ⟨⟨g0, g1⟩, ⟨h0, h1⟩, z0, z1, z2⟩ := hSw; go_simp; try with_reducible rfl)
          (try simp only [Act.put, List.getElem_toArray, List.getElem_cons_zero, List.getElem_cons_succ, List.setIfInBounds_toArray, List.set_cons_zero, List.set_cons_succ])
          refine wpAnyH_ready (rs := [12]) (by kernel_rfl) (by simp) ?_
          refine AllReadyH.cons rfl (fun K hK => ?_) AllReadyH.nil
          obtain ⟨⟨d0, d1⟩, f0, f1⟩ := (E2.out.f.below GG.out.out).cl k H1.out
          go_simp
          refine hK.out _ _ ?_ (fun hHeld => ?_)
          · (try dsimp only); exact HCz.out _ _ _ GG.out
          clear hK K
          clear d0 d1 f0 f1
          refine wpAnyH_take (i := 13) (v := ?vh7q2z13x61) rfl (by kernel_rfl) (by kernel_rfl) (by kernel_rfl) (fun _ _ _ h => h) (Or.inl ⟨by kernel_rfl, ?hh7q2z13x61⟩) (by assumption) ?rh7q2z13x61
          case hh7q2z13x61 => (intro w hSw; (try dsimp only at hSw); obtain ⟨⟨g0, g1⟩, ⟨h0, h1⟩, z0, z1, z2⟩ := hSw; go_simp; try with_reducible rfl)
          (try simp only [Act.put, List.getElem_toArray, List.getElem_cons_zero, List.getElem_cons_succ, List.setIfInBounds_toArray, List.set_cons_zero, List.set_cons_succ])
          refine wpAnyH_done (by kernel_rfl) ?_ _
          have E5 := hidb ((E2.out.below GG.out.out).put H1.out (qx (base * ov + H k) ov) (qy (base * ov + H k) ov))
          clear GG E2 HCz HCy AR HNh ixo
          rcases qe_or g (base * ov + H k) ov with hq | hq
          · have E6 : Hid (HT w1 ((V0pf.setCell ⟨OB, k * 2, none⟩ (.int .i64 (qx (base * ov + H k) ov))).setCell ⟨OB, k * 2 + 1, none⟩ (.int .i64 (qy (base * ov + H k) ov))) GB OB n mg vg (base * ov) (fun i => if i < k + 1 then (qx (base * ov + H i) ov, qy (base * ov + H i) ov) else (0, 0)) ∧ ∀ j, j < k + 1 → qe g (base * ov + H j) ov = .nilIface) := by
              refine ⟨⟨E5.out.gr, E5.out.a, E5.out.z, E5.out.f.congr (fun i hi => ?_), E5.out.b⟩, fun j hj => ?_⟩
              · by_cases e : i = k
                · rw [if_pos e, if_pos (by omega), e]
                · rw [if_neg e]
                  by_cases e2 : i < k
                  · rw [if_pos e2, if_pos (by omega)]
                  · rw [if_neg e2, if_neg (by omega)]
              · by_cases e : j = k
                · rw [e]; exact hq
                · exact HQ.out j (by omega)
            rw [hq]
            clear E5 HQ hq
            generalize (V0pf.setCell ⟨OB, k * 2, none⟩ (.int .i64 (qx (base * ov + H k) ov))).setCell ⟨OB, k * 2 + 1, none⟩ (.int .i64 (qy (base * ov + H k) ov)) = W5 at *
            go_wp2
            go_roundw
            case rel => exact ⟨k + 1, H1.out, by go_num, E6⟩
            case measure => have := H1.out; simp [intOf]; omega
          · have HZ : Hid ((∃ j, j < n ∧ ¬ qe g (base * ov + H j) ov = .nilIface) ∧ Gr w ((V0pf.setCell ⟨OB, k * 2, none⟩ (.int .i64 (qx (base * ov + H k) ov))).setCell ⟨OB, k * 2 + 1, none⟩ (.int .i64 (qy (base * ov + H k) ov)))) := ⟨⟨k, H1.out, by rw [hq]; unfold errV; exact fun e => by cases e⟩, Gr.step PX.out.2 E5.out.gr.out⟩
            rw [hq]
            unfold errV
            clear E5 HQ hq
            generalize (V0pf.setCell ⟨OB, k * 2, none⟩ (.int .i64 (qx (base * ov + H k) ov))).setCell ⟨OB, k * 2 + 1, none⟩ (.int .i64 (qy (base * ov + H k) ov)) = W5 at *
            go_wp2
            exact bodyPost_ret (v := .tuple #[.slice none 0 0, errV g 1]) (by unfold errV; simp [results, Tryd.results21, go_sem]) rfl ⟨.inr ⟨HZ.out.1, rfl⟩, HZ.out.2⟩
  · skip
    go_simp
    refine hK.out _ _ ?_ (fun hHeld => ?_)
    · (try dsimp only); exact HCx.out _ (GG.out.alloc _)
    clear hK K
    have AG := hidb (At.new2 V (.bool false) (.slice none 0 0) 65)
    have HGb : Hid (w1.heap.size ≤ V.heap.size) := GG.out.out.size
    replace GG := hidb (GG.out.alloc (.cells #[.bool false, .slice none 0 0] 65))
    obtain ⟨GB, hGB⟩ : ∃ z, z = V.heap.size := ⟨_, rfl⟩
    rw [← hGB] at AG HGb ⊢
    generalize V.alloc (.cells #[.bool false, .slice none 0 0] 65) = Va at *
    clear hGB
    refine wpAnyH_ready (rs := [1]) (by kernel_rfl) (by simp) ?_
    refine AllReadyH.cons rfl (fun K hK => ?_) AllReadyH.nil
    go_simp
    go_wp2_with (go_at_call 30; refine (HOf.out _).mono ?_; rintro e Vao ⟨m1, x1, rfl, k1, k2, -⟩)
    refine hK.out _ _ ?_ (fun hHeld => ?_)
    · (try dsimp only); exact HCx.out _ (Gr.step GG.out k2)
    clear hK K
    replace GG := hidb (Gr.step GG.out k2)
    have K1 := hidb k1
    replace AG := hidb (At.below k2 AG.out)
    clear k1 k2
    refine wpAnyH_ready (rs := [4]) (by kernel_rfl) (by simp) ?_
    refine AllReadyH.cons rfl (fun K hK => ?_) AllReadyH.nil
    go_simp
    go_wp2_with (go_at_call 32; refine (times_nm HBl.out HL1.out K1.out (HLv.out _ GG.out).o).mono ?_; rintro e Vaot ⟨mg, vg, rfl, k1, k2, -⟩)
    refine hK.out _ _ ?_ (fun hHeld => ?_)
    · (try dsimp only); exact HCx.out _ (Gr.step GG.out k2)
    clear hK K
    replace GG := hidb (Gr.step GG.out k2)
    have K4 := hidb k1
    replace AG := hidb (At.below k2 AG.out)
    clear k1 k2 K1
    obtain ⟨adg, Lg, cpg, rfl⟩ := K4.out.form
    refine wpAnyH_ready (rs := [6]) (by kernel_rfl) (by simp) ?_
    refine AllReadyH.cons rfl (fun K hK => ?_) AllReadyH.nil
    obtain ⟨d0, d1⟩ := AG.out.c2
    have f0 := (AG.out.1 0 (by simp)).2
    have f1 := (AG.out.1 1 (by simp)).2
    go_simp
    refine hK.out _ _ ?_ (fun hHeld => ?_)
    · (try dsimp only); exact HCx.out _ ((GG.out.set HGb.out _ _).set HGb.out _ _)
    clear hK K
    clear d0 d1 f0 f1
    refine wpAnyH_done (by kernel_rfl) ?_ _
    generalize hvg : Value.slice adg Lg cpg = vg at *
    clear hvg
    have E0 : Hid (Gr w1 ((Vaot.setCell ⟨GB, 0, none⟩ (.bool mg)).setCell ⟨GB, 1, none⟩ vg) ∧ At ((Vaot.setCell ⟨GB, 0, none⟩ (.bool mg)).setCell ⟨GB, 1, none⟩ vg) GB [.bool mg, vg] ∧ Nm ((Vaot.setCell ⟨GB, 0, none⟩ (.bool mg)).setCell ⟨GB, 1, none⟩ vg) mg vg (base * ov)) :=
      ⟨(GG.out.set HGb.out _ _).set HGb.out _ _, (AG.out.put 0 _).put 1 _, K4.out.1.setS2 AG.out _, K4.out.2⟩
    clear GG AG K4
    generalize (Vaot.setCell ⟨GB, 0, none⟩ (.bool mg)).setCell ⟨GB, 1, none⟩ vg = W2 at *
    obtain ⟨z0, z1, z2⟩ := HCx.out _ E0.out.1
    go_upto_region 2 with fail
    go_upto_region 3 with fail
    obtain ⟨OB, hOB⟩ : ∃ z, z = W2.heap.size := ⟨_, rfl⟩
    have A1 := At.newArr W2 CF 50
    rw [hCF, ← hOB] at A1
    rw [← hOB]
    have E1 : Hid (HT w1 (W2.alloc (.cells CF 50)) GB OB n mg vg (base * ov) (fun i => if i < 0 then (qx (base * ov + H i) ov, qy (base * ov + H i) ov) else (0, 0))) :=
      ⟨E0.out.1.alloc _, E0.out.2.1.alloc _, E0.out.2.2.below ((Below.refl _ _).alloc (Nat.le_refl _) _), (FB2.of A1).congr (fun i hi => by rw [if_neg (by omega)]), HGb.out, by have := E0.out.1.out.size; omega, by have := E0.out.2.1.lt; omega⟩
    generalize W2.alloc (.cells CF 50) = W3 at *
    clear E0 A1 hOB z0 z1 z2 HGb
    obtain ⟨z0, z1, z2⟩ := HCx.out _ E1.out.gr
    go_wp2
    clear z0 z1 z2
    go_loopw [23] (fun t wr => ∃ k : Nat, k ≤ n ∧ t = .int .i64 (k : Int) ∧ Hid (HT w1 wr GB OB n mg vg (base * ov) (fun i => if i < k then (qx (base * ov + H i) ov, qy (base * ov + H i) ov) else (0, 0)) ∧ ∀ j, j < k → qe g (base * ov + H j) ov = .nilIface)) (fun t _ => n - (intOf t).toNat)
    case atStart => exact ⟨0, Nat.zero_le _, rfl, hidb ⟨E1.out, fun j hj => by omega⟩⟩
    case round =>
      clear E1
      obtain ⟨k, hk, rfl, E⟩ := hrel
      by_cases h1 : ¬ k < n
      · have h1' : ¬ (k : Int) < (n : Int) := by omega
        have HZ : Hid ((∀ j, j < n → qe g (base * ov + H j) ov = .nilIface) ∧ FB2 wr OB n (fun j => (qx (base * ov + H j) ov, qy (base * ov + H j) ov)) ∧ w.heap.size ≤ OB ∧ Gr w wr) := ⟨fun j hj => E.out.2 j (by omega), E.out.1.f.congr (fun i hi => by rw [if_pos (by omega)]), by have := E.out.1.b.2.1; have := HXw.out; omega, Gr.step PX.out.2 E.out.1.gr.out⟩
        clear h1 hk E
        go_wp2
        exact bodyPost_ret (v := .tuple #[.slice (some ⟨OB, 0, none⟩) n n, .nilIface]) (by simp [results, Tryd.results21, go_sem]) rfl ⟨.inl ⟨OB, rfl, HZ.out.1, HZ.out.2.1, HZ.out.2.2.1⟩, HZ.out.2.2.2⟩
      · have h1' : (k : Int) < (n : Int) := by omega
        have H1 := hidb (show k < n by omega)
        have e9 : IntKind.i64.wrap ((k : Int) + 1) = ((k + 1 : Nat) : Int) := by rw [show (k : Int) + 1 = ((k + 1 : Nat) : Int) by omega]; exact wr_in (by omega) (by have := HN.out; omega)
        have ix := nuindex HB 0 n n k H1.out
        rw [Nat.zero_add] at ix
        obtain ⟨c0, c1⟩ := (HLv.out _ E.out.1.gr).c k H1.out
        have HNh := hidb ((HLv.out _ E.out.1.gr).z k H1.out)
        generalize ms k = mh at *
        generalize us k = vh at *
        obtain ⟨adh, Lh, cph, rfl⟩ := HNh.out.form
        have AR := hidb (At.new2 wr (.bool mh) (.slice adh Lh cph) 65)
        have E2 := hidb (E.out.1.below ((Below.refl _ _).alloc (Nat.le_refl _) (.cells #[.bool mh, .slice adh Lh cph] 65)))
        replace HNh := hidb (HNh.out.below ((Below.refl _ _).alloc (Nat.le_refl _) (.cells #[.bool mh, .slice adh Lh cph] 65)))
        have HQ := hidb E.out.2
        have hob := E.out.1.f.lt
        clear h1 hk E
        go_upto_region 7 with fail
        clear c0 c1 ix
        obtain ⟨NB, hNB⟩ : ∃ z, z = wr.heap.size := ⟨_, rfl⟩
        rw [← hNB] at AR hob ⊢
        generalize wr.alloc (.cells #[.bool mh, .slice adh Lh cph] 65) = W4 at *
        generalize hvh : Value.slice adh Lh cph = vh at *
        clear hNB hvh
        have GG := hidb (Gr.refl W4)
        have HCy : Hid (∀ W', Gr W4 W' → (fun w' => (w'.cell? ⟨GB, 0, none⟩ = some (.bool mg) ∧ w'.cell? ⟨GB, 1, none⟩ = some vg) ∧ (w'.cell? ⟨NB, 0, none⟩ = some (.bool mh) ∧ w'.cell? ⟨NB, 1, none⟩ = some vh) ∧ (w'.cell? ⟨XB, 0, none⟩ = some (.slice (some ⟨HB, 0, none⟩) n n) ∧ w'.cell? ⟨XB, 1, none⟩ = some (.bool mo) ∧ w'.cell? ⟨XB, 2, none⟩ = some vo)) W') := fun W' hG => ⟨(At.below hG.out E2.out.a).c2, (At.below hG.out AR.out).c2, HCx.out _ (Gr.step E2.out.gr hG.out)⟩
        have ixo := frindex OB n n k H1.out
        have hne : ¬ OB = NB := by omega
        have HCz : Hid (∀ V x y, Gr W4 V → (fun w' => (w'.cell? ⟨GB, 0, none⟩ = some (.bool mg) ∧ w'.cell? ⟨GB, 1, none⟩ = some vg) ∧ (w'.cell? ⟨NB, 0, none⟩ = some (.bool mh) ∧ w'.cell? ⟨NB, 1, none⟩ = some vh) ∧ (w'.cell? ⟨XB, 0, none⟩ = some (.slice (some ⟨HB, 0, none⟩) n n) ∧ w'.cell? ⟨XB, 1, none⟩ = some (.bool mo) ∧ w'.cell? ⟨XB, 2, none⟩ = some vo)) ((V.setCell ⟨OB, k * 2, none⟩ (.int .i64 x)).setCell ⟨OB, k * 2 + 1, none⟩ (.int .i64 y))) := fun V x y hG => ⟨((E2.out.below hG.out).put H1.out x y).a.c2, (((At.below hG.out AR.out).skip hne _ _).skip hne _ _).c2, HCx.out _ ((E2.out.below hG.out).put H1.out x y).gr⟩
        clear hob hne
        refine wp_region_held_drew (S := (fun w' => (w'.cell? ⟨GB, 0, none⟩ = some (.bool mg) ∧ w'.cell? ⟨GB, 1, none⟩ = some vg) ∧ (w'.cell? ⟨NB, 0, none⟩ = some (.bool mh) ∧ w'.cell? ⟨NB, 1, none⟩ = some vh) ∧ (w'.cell? ⟨XB, 0, none⟩ = some (.slice (some ⟨HB, 0, none⟩) n n) ∧ w'.cell? ⟨XB, 1, none⟩ = some (.bool mo) ∧ w'.cell? ⟨XB, 2, none⟩ = some vo))) (by kernel_rfl) ?_ (fun hHeld => ?_)
        · (try dsimp only); exact HCy.out _ GG.out.drew
        replace GG := hidb GG.out.drew
        generalize W4.drew = V0 at *
        refine wpAnyH_take (i := 0) (v := ?vh7q3z0x4) rfl (by kernel_rfl) (by kernel_rfl) (by kernel_rfl) (fun _ _ _ h => h) (Or.inl ⟨by kernel_rfl, ?hh7q3z0x4⟩) (by assumption) ?rh7q3z0x4
        case hh7q3z0x4 => (intro w hSw; (try dsimp only at hSw); obtain ⟨⟨g0, g1⟩, ⟨h0, h1⟩, z0, z1, z2⟩ := hSw; go_simp; try with_reducible rfl)
        (try simp only [Act.put, List.getElem_toArray, List.getElem_cons_zero, List.setIfInBounds_toArray, List.set_cons_zero, List.set_cons_succ])
        refine wpAnyH_take (i := 1) (v := ?vh7q3z1x7) rfl (by kernel_rfl) (by kernel_rfl) (by kernel_rfl) (fun _ _ _ h => h) (Or.inl ⟨by kernel_rfl, ?hh7q3z1x7⟩) (by assumption) ?rh7q3z1x7
        case hh7q3z1x7 => (intro w hSw; (try dsimp only at hSw); obtain ⟨⟨g0, g1⟩, ⟨h0, h1⟩, z0, z1, z2⟩ := hSw; go_simp; try with_reducible rfl)
        (try simp only [Act.put, List.getElem_toArray, List.getElem_cons_zero, List.getElem_cons_succ, List.setIfInBounds_toArray, List.set_cons_zero, List.set_cons_succ])
        refine wpAnyH_take (i := 2) (v := ?vh7q3z2x10) rfl (by kernel_rfl) (by kernel_rfl) (by kernel_rfl) (fun _ _ _ h => h) (Or.inl ⟨by kernel_rfl, ?hh7q3z2x10⟩) (by assumption) ?rh7q3z2x10
        case hh7q3z2x10 => (intro w hSw; (try dsimp only at hSw); obtain ⟨⟨g0, g1⟩, ⟨h0, h1⟩, z0, z1, z2⟩ := hSw; go_simp; try with_reducible rfl)
        (try simp only [Act.put, List.getElem_toArray, List.getElem_cons_zero, List.getElem_cons_succ, List.setIfInBounds_toArray, List.set_cons_zero, List.set_cons_succ])
        refine wpAnyH_take (i := 3) (v := ?vh7q3z3x13) rfl (by kernel_rfl) (by kernel_rfl) (by kernel_rfl) (fun _ _ _ h => h) (Or.inl ⟨by kernel_rfl, ?hh7q3z3x13⟩) (by assumption) ?rh7q3z3x13
        case hh7q3z3x13 => (intro w hSw; (try dsimp only at hSw); obtain ⟨⟨g0, g1⟩, ⟨h0, h1⟩, z0, z1, z2⟩ := hSw; go_simp; try with_reducible rfl)
        (try simp only [Act.put, List.getElem_toArray, List.getElem_cons_zero, List.getElem_cons_succ, List.setIfInBounds_toArray, List.set_cons_zero, List.set_cons_succ])
        refine wpAnyH_take (i := 5) (v := ?vh7q3z5x16) rfl (by kernel_rfl) (by kernel_rfl) (by kernel_rfl) (fun _ _ _ h => h) (Or.inl ⟨by kernel_rfl, ?hh7q3z5x16⟩) (by assumption) ?rh7q3z5x16
        case hh7q3z5x16 => (intro w hSw; (try dsimp only at hSw); obtain ⟨⟨g0, g1⟩, ⟨h0, h1⟩, z0, z1, z2⟩ := hSw; go_simp; try with_reducible rfl)
        (try simp only [Act.put, List.getElem_toArray, List.getElem_cons_zero, List.getElem_cons_succ, List.setIfInBounds_toArray, List.set_cons_zero, List.set_cons_succ])
        refine wpAnyH_take (i := 6) (v := ?vh7q3z6x19) rfl (by kernel_rfl) (by kernel_rfl) (by kernel_rfl) (fun _ _ _ h => h) (Or.inl ⟨by kernel_rfl, ?hh7q3z6x19⟩) (by assumption) ?rh7q3z6x19
        case hh7q3z6x19 => (intro w hSw; (try dsimp only at hSw); obtain ⟨⟨g0, g1⟩, ⟨h0, h1⟩, z0, z1, z2⟩ := hSw; go_simp; try with_reducible rfl)
        (try simp only [Act.put, List.getElem_toArray, List.getElem_cons_zero, List.getElem_cons_succ, List.setIfInBounds_toArray, List.set_cons_zero, List.set_cons_succ])
        refine wpAnyH_ready (rs := [4]) (by kernel_rfl) (by simp) ?_
        refine AllReadyH.cons rfl (fun K hK => ?_) AllReadyH.nil
        go_simp
        go_wp2_with (go_at_call 34; refine (plus_nm HL2.out (HL3.out k H1.out) (E2.out.z.below GG.out.out) (HNh.out.below GG.out.out)).mono ?_; rintro e V0p ⟨mp, vp, rfl, k1, k2, -⟩)
        refine hK.out _ _ ?_ (fun hHeld => ?_)
        · (try dsimp only); exact HCy.out _ (Gr.step GG.out k2)
        clear hK K
        replace GG := hidb (Gr.step GG.out k2)
        have K5 := hidb k1
        clear k1 k2
        refine wpAnyH_ready (rs := [7]) (by kernel_rfl) (by simp) ?_
        refine AllReadyH.cons rfl (fun K hK => ?_) AllReadyH.nil
        go_simp
        go_wp2_with (go_at_call 33; refine (frac_all g (HL4.out k H1.out) HL1.out HO.out K5.out (HLv.out _ (Gr.step E2.out.gr GG.out.out)).o (HLa.out _ (Gr.step E2.out.gr GG.out.out))).mono ?_; rintro e V0pf ⟨rfl, k2, -⟩)
        refine hK.out _ _ ?_ (fun hHeld => ?_)
        · (try dsimp only); exact HCy.out _ (Gr.step GG.out k2)
        clear hK K
        replace GG := hidb (Gr.step GG.out k2)
        clear k2 K5
        refine wpAnyH_take (i := 8) (v := ?vh7q3z8x41) rfl (by kernel_rfl) (by kernel_rfl) (by kernel_rfl) (fun _ _ _ h => h) (Or.inl ⟨by kernel_rfl, ?hh7q3z8x41⟩) (by assumption) ?rh7q3z8x41
        case hh7q3z8x41 => (intro w hSw; (try dsimp only at hSw); obtain ⟨⟨g0, g1⟩, ⟨h0, h1⟩, z0, z1, z2⟩ := hSw; go_simp; try with_reducible rfl)
        (try simp only [Act.put, List.getElem_toArray, List.getElem_cons_zero, List.getElem_cons_succ, List.setIfInBounds_toArray, List.set_cons_zero, List.set_cons_succ])
        refine wpAnyH_take (i := 9) (v := ?vh7q3z9x44) rfl (by kernel_rfl) (by kernel_rfl) (by kernel_rfl) (fun _ _ _ h => h) (Or.inl ⟨by kernel_rfl, ?hh7q3z9x44⟩) (by assumption) ?rh7q3z9x44
        case hh7q3z9x44 => (intro w hSw; (try dsimp only at hSw); obtain ⟨⟨g0, g1⟩, ⟨h0, h1⟩, z0, z1, z2⟩ := hSw; go_simp; try with_reducible rfl)
        (try simp only [Act.put, List.getElem_toArray, List.getElem_cons_zero, List.getElem_cons_succ, List.setIfInBounds_toArray, List.set_cons_zero, List.set_cons_succ])
        refine wpAnyH_take (i := 10) (v := ?vh7q3z10x47) rfl (by kernel_rfl) (by kernel_rfl) (by kernel_rfl) (fun _ _ _ h => h) (Or.inl ⟨by kernel_rfl, ?hh7q3z10x47⟩) (by assumption) ?rh7q3z10x47
        case hh7q3z10x47 => (intro w hSw; (try dsimp only at hSw); obtain ⟨⟨g0, g1⟩, ⟨h0, h1⟩, z0, z1, z2⟩ := hSw; go_simp; try with_reducible rfl)
        (try simp only [Act.put, List.getElem_toArray, List.getElem_cons_zero, List.getElem_cons_succ, List.setIfInBounds_toArray, List.set_cons_zero, List.set_cons_succ])
        refine wpAnyH_take (i := 11) (v := ?vh7q3z11x50) rfl (by kernel_rfl) (by kernel_rfl) (by kernel_rfl) (fun _ _ _ h => h) (Or.inl ⟨by kernel_rfl, ?hh7q3z11x50⟩) (by assumption) ?rh7q3z11x50
        case hh7q3z11x50 => (intro w hSw; (try dsimp only at hSw); obtain ⟨⟨g0, g1⟩, ⟨h0, h1⟩, z0, z1, z2⟩ := hSw; go_simp; try with_reducible rfl)
        (try simp only [Act.put, List.getElem_toArray, List.getElem_cons_zero, List.getElem_cons_succ, List.setIfInBounds_toArray, List.set_cons_zero, List.set_cons_succ])
        refine wpAnyH_ready (rs := [12]) (by kernel_rfl) (by simp) ?_
        refine AllReadyH.cons rfl (fun K hK => ?_) AllReadyH.nil
        obtain ⟨⟨d0, d1⟩, f0, f1⟩ := (E2.out.f.below GG.out.out).cl k H1.out
        go_simp
        refine hK.out _ _ ?_ (fun hHeld => ?_)
        · (try dsimp only); exact HCz.out _ _ _ GG.out
        clear hK K
        clear d0 d1 f0 f1
        refine wpAnyH_take (i := 13) (v := ?vh7q3z13x61) rfl (by kernel_rfl) (by kernel_rfl) (by kernel_rfl) (fun _ _ _ h => h) (Or.inl ⟨by kernel_rfl, ?hh7q3z13x61⟩) (by assumption) ?rh7q3z13x61
        case hh7q3z13x61 => (intro w hSw; (try dsimp only at hSw); obtain ⟨⟨g0, g1⟩, ⟨h0, h1⟩, z0, z1, z2⟩ := hSw; go_simp; try with_reducible rfl)
        (try simp only [Act.put, List.getElem_toArray, List.getElem_cons_zero, List.getElem_cons_succ, List.setIfInBounds_toArray, List.set_cons_zero, List.set_cons_succ])
        refine wpAnyH_done (by kernel_rfl) ?_ _
        have E5 := hidb ((E2.out.below GG.out.out).put H1.out (qx (base * ov + H k) ov) (qy (base * ov + H k) ov))
        clear GG E2 HCz HCy AR HNh ixo
        rcases qe_or g (base * ov + H k) ov with hq | hq
        · have E6 : Hid (HT w1 ((V0pf.setCell ⟨OB, k * 2, none⟩ (.int .i64 (qx (base * ov + H k) ov))).setCell ⟨OB, k * 2 + 1, none⟩ (.int .i64 (qy (base * ov + H k) ov))) GB OB n mg vg (base * ov) (fun i => if i < k + 1 then (qx (base * ov + H i) ov, qy (base * ov + H i) ov) else (0, 0)) ∧ ∀ j, j < k + 1 → qe g (base * ov + H j) ov = .nilIface) := by
            refine ⟨⟨E5.out.gr, E5.out.a, E5.out.z, E5.out.f.congr (fun i hi => ?_), E5.out.b⟩, fun j hj => ?_⟩
            · by_cases e : i = k
              · rw [if_pos e, if_pos (by omega), e]
              · rw [if_neg e]
                by_cases e2 : i < k
                · rw [if_pos e2, if_pos (by omega)]
                · rw [if_neg e2, if_neg (by omega)]
            · by_cases e : j = k
              · rw [e]; exact hq
              · exact HQ.out j (by omega)
          rw [hq]
          clear E5 HQ hq
          generalize (V0pf.setCell ⟨OB, k * 2, none⟩ (.int .i64 (qx (base * ov + H k) ov))).setCell ⟨OB, k * 2 + 1, none⟩ (.int .i64 (qy (base * ov + H k) ov)) = W5 at *
          go_wp2
          go_roundw
          case rel => exact ⟨k + 1, H1.out, by go_num, E6⟩
          case measure => have := H1.out; simp [intOf]; omega
        · have HZ : Hid ((∃ j, j < n ∧ ¬ qe g (base * ov + H j) ov = .nilIface) ∧ Gr w ((V0pf.setCell ⟨OB, k * 2, none⟩ (.int .i64 (qx (base * ov + H k) ov))).setCell ⟨OB, k * 2 + 1, none⟩ (.int .i64 (qy (base * ov + H k) ov)))) := ⟨⟨k, H1.out, by rw [hq]; unfold errV; exact fun e => by cases e⟩, Gr.step PX.out.2 E5.out.gr.out⟩
          rw [hq]
          unfold errV
          clear E5 HQ hq
          generalize (V0pf.setCell ⟨OB, k * 2, none⟩ (.int .i64 (qx (base * ov + H k) ov))).setCell ⟨OB, k * 2 + 1, none⟩ (.int .i64 (qy (base * ov + H k) ov)) = W5 at *
          go_wp2
          exact bodyPost_ret (v := .tuple #[.slice none 0 0, errV g 1]) (by unfold errV; simp [results, Tryd.results21, go_sem]) rfl ⟨.inr ⟨HZ.out.1, rfl⟩, HZ.out.2⟩
end Go.Proofs.YtecmkjefoppbiaaDoor
