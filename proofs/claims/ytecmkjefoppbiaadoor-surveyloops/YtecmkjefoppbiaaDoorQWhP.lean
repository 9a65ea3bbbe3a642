/-
  whole.divisor, whole.Frac.
-/
import Derived.Test.YtecmkjefoppbiaaDoorQJ12
import Derived.Test.YtecmkjefoppbiaaDoorQJ22
namespace Go.Proofs.YtecmkjefoppbiaaDoor
open Go.RowKit WH
attribute [local go_sem ↓] Go.wp_at_zero Go.wp_at_succ

theorem wdiv_any {w : World} {u v : Value} {m n : Nat} (lm : m < wlid) (ln : n < wlid) (hn : 0 < n) (ha : Pt w u (WH.dn m)) (hb : Pt w v (WH.dn n)) : Calls Tryd.prog 50 #[u, v] w fun e w' => ∃ q r, e = .returned (.tuple #[q, r]) ∧ Pt w' q (WH.dn (m / n)) ∧ Pt w' r (WH.dn (m % n)) ∧ Gr w w' := by
  rcases Nat.lt_or_ge m n with c | c
  · exact wdiv_lt lm ln c ha hb
  · exact wdiv_ge lm hn c ha hb
set_option maxRecDepth 4000 in
set_option maxHeartbeats 4000000 in
theorem wgcd_any {w : World} {u v : Value} {a b : Nat} (la : a < wlid) (lb : b < wlid) (ha : Pt w u (WH.dn a)) (hv : Pt w v (WH.dn b)) : Calls Tryd.prog 49 #[u, v] w fun e w' => ∃ r, e = .returned r ∧ Pt w' r (WH.dn (Nat.gcd a b)) ∧ Gr w w' := by
  have HA := hidb ha
  have HV := hidb hv
  have LA := hidb la
  have LB := hidb lb
  obtain ⟨ad0, cp0, hv0⟩ := hv.form
  have HV0 := hidb hv0
  clear ha hv la lb hv0
  go_enter Tryd.func49, Tryd.ntmps49
  go_wp2
  go_loopg [0, 1] b (fun g s t wr => ∃ (m : Nat) (ad : Option Addr) (cap : Nat), Hid (m < wlid ∧ g < wlid ∧ Nat.gcd m g = Nat.gcd a b) ∧ t = .slice ad (WH.dn g).length cap ∧ Hid (Pt wr s (WH.dn m)) ∧ Hid (Pt wr (.slice ad (WH.dn g).length cap) (WH.dn g)) ∧ Hid (Gr w wr))
  case atStart => exact ⟨a, ad0, cp0, ⟨LA.out, LB.out, rfl⟩, HV0.out, HA.out, by rw [← HV0.out]; exact HV.out, Gr.refl _⟩
  case round =>
    obtain ⟨m, ad, cap, HG, rfl, HS, HT, HB⟩ := hrel
    rcases Nat.eq_zero_or_pos gk with h0 | h0
    · have hl : (WH.dn gk).length = 0 := by rw [h0, WH.dn_zero]; rfl
      have HE : Hid (m = Nat.gcd a b) := by have := HG.out.2.2; rw [h0, Nat.gcd_zero_right] at this; exact this
      rw [hl]
      go_wp2
      go_ret
      exact ⟨_, rfl, by rw [← HE.out]; exact HS.out, HB.out⟩
    · have hl : 0 < (WH.dn gk).length := by
        rcases Nat.eq_zero_or_pos (WH.dn gk).length with c | c
        · rw [WH.dn_empty] at c; omega
        · exact c
      have HP := hidb (wdiv_any HG.out.1 HG.out.2.1 h0 HS.out HT.out)
      have hl' : (0 : Int) < ((WH.dn gk).length : Int) := by omega
      have HM : Hid (m % gk < gk) := Nat.mod_lt _ h0
      go_wp2_with fail
      refine HP.out.mono ?_
      rintro e w2 ⟨q, r, rfl, hq, hr, hB2⟩
      have HR := hidb hr
      have HB2 := hidb hB2
      clear hq hr hB2
      go_wp2
      go_roundg (m % gk)
      case measure => exact HM.out
      case rel =>
        obtain ⟨ad', cap', hr'⟩ := HR.out.form
        exact ⟨gk, ad', cap', ⟨HG.out.2.1, Nat.lt_trans HM.out HG.out.2.1, by rw [gcd_step]; exact HG.out.2.2⟩, hr', HT.out.below HB2.out, by show Pt _ _ _; rw [← hr']; exact HR.out, Gr.step HB.out HB2.out⟩
/-- What lies in memory while a fraction is made. -/
structure FF (W : World) (b : Nat) (m : Bool) (u : Value) (n : Bool) (v : Value) : Prop where
  fa : At W b [.bool m, u]
  fb : At W (b + 1) [.bool n, v]
  fr : At W (b + 1 + 1) [.int .i64 0, .int .i64 0]
theorem FF.below {W w' : World} {b : Nat} {m n : Bool} {u v : Value} (h : FF W b m u n v) (hB : Below W.heap.size W w') : FF w' b m u n v := ⟨At.below hB h.fa, At.below hB h.fb, At.below hB h.fr⟩
theorem FF.init (w : World) (m n : Bool) (u v : Value) (t t' : Nat) : FF (((w.alloc (.cells #[.bool m, u] t)).alloc (.cells #[.bool n, v] t)).alloc (.cells #[.int .i64 0, .int .i64 0] t')) w.heap.size m u n v :=
  ⟨((At.new2 w (.bool m) u t).alloc _).alloc _, (At.nx2 (W := w) _ (.bool n) v t).alloc _, At.ny2 (W := w) _ _ (.int .i64 0) (.int .i64 0) t'⟩
theorem wlen_one {n : Nat} (h : n < 18446744073709551616) : ¬ (1 : Int) < ((WH.dn n).length : Int) := by
  have := WH.dn_len_le (n := n) (k := 1) (by rw [Nat.pow_one]; exact h)
  omega
theorem wlen_two {n : Nat} (h : ¬ n < 18446744073709551616) : (1 : Int) < ((WH.dn n).length : Int) := by
  have h1 := WH.dv_lt (WH.dn_dg n)
  rw [WH.dv_dn] at h1
  have : ¬ (WH.dn n).length ≤ 1 := fun e => by
    have := pw_mono e
    rw [Nat.pow_one] at this
    omega
  omega
theorem sgn_ne {z : Int} (h : ¬ z = 0) : ¬ sgn z = 0 := by unfold sgn; split <;> (try split) <;> omega
set_option maxRecDepth 4000 in
set_option maxHeartbeats 4000000 in
theorem frac_ok {w : World} {m n : Bool} {u v : Value} {x y : Int} (lx : x.natAbs < wlid) (ly : y.natAbs < wlid) (hy : ¬ y = 0) (h : Nm w m u x) (k : Nm w n v y) (hf : fits (rn x.natAbs y.natAbs) (rd x.natAbs y.natAbs)) : Calls Tryd.prog 33 #[.agg #[.bool m, u], .agg #[.bool n, v]] w fun e w' => e = .returned (.tuple #[frV (decide (x < 0) != decide (y < 0)) (rn x.natAbs y.natAbs) (rd x.natAbs y.natAbs), .nilIface]) ∧ Below w.heap.size w w' ∧ w.heap.size < w'.heap.size := by
  have HS := hidb (fun w (h : Nm w n v y) => sign_nm h)
  have hs := sgn_ne hy
  have KN := hidb k
  obtain ⟨hb, hm⟩ := h
  obtain ⟨kb, hn⟩ := k
  rw [← hm, ← hn]
  clear hm hn
  have hg : 0 < Nat.gcd x.natAbs y.natAbs := Nat.gcd_pos_of_pos_right _ (by omega)
  have hgl : Nat.gcd x.natAbs y.natAbs ≤ y.natAbs := Nat.gcd_le_right _ (by omega)
  obtain ⟨f1, f2⟩ := hf
  unfold rn at *
  unfold rd at *
  have lg : Nat.gcd x.natAbs y.natAbs < wlid := Nat.lt_of_le_of_lt hgl ly
  have HB := hidb hb
  have KB := hidb kb
  have HG := hidb (fun w (a : Pt w u (WH.dn x.natAbs)) (b : Pt w v (WH.dn y.natAbs)) => wgcd_any lx ly a b)
  have HP := hidb (fun w t (a : Pt w u (WH.dn x.natAbs)) (b : Pt w t (WH.dn (Nat.gcd x.natAbs y.natAbs))) => wdiv_any lx lg hg a b)
  have HQ := hidb (fun w t (a : Pt w v (WH.dn y.natAbs)) (b : Pt w t (WH.dn (Nat.gcd x.natAbs y.natAbs))) => wdiv_any ly lg hg a b)
  have l1 := wlen_one (n := x.natAbs / Nat.gcd x.natAbs y.natAbs) (by omega)
  have l2 := wlen_one (n := y.natAbs / Nat.gcd x.natAbs y.natAbs) (by omega)
  have HI1 := hidb (fun w s (a : Pt w s (WH.dn (x.natAbs / Nat.gcd x.natAbs y.natAbs))) => least_any (by omega) a)
  have HI2 := hidb (fun w s (a : Pt w s (WH.dn (y.natAbs / Nat.gcd x.natAbs y.natAbs))) => least_any (by omega) a)
  clear hb kb hg hgl lg lx ly hy
  generalize x.natAbs / Nat.gcd x.natAbs y.natAbs = p at *
  generalize y.natAbs / Nat.gcd x.natAbs y.natAbs = q at *
  generalize Nat.gcd x.natAbs y.natAbs = gg at *
  generalize sgn y = sy at *
  have c1 : IntKind.i64.wrap (p : Int) = (p : Int) := wr_i64 (by omega)
  have c2 : IntKind.i64.wrap (q : Int) = (q : Int) := wr_i64 (by omega)
  have c3 : IntKind.i64.wrap (-(p : Int)) = -(p : Int) := by rw [IntKind.wrap_i64]; omega
  have d1 : ¬ (4611686018427387904 : Int) < (p : Int) := by omega
  have d2 : ¬ (4611686018427387904 : Int) < (q : Int) := by omega
  have F1 := hidb f1
  have F2 := hidb f2
  clear f1 f2
  go_enter Tryd.func33, Tryd.ntmps33
  have VV := FF.init w m n u v 65 50
  have HC : Gr w (((w.alloc (.cells #[.bool m, u] 65)).alloc (.cells #[.bool n, v] 65)).alloc (.cells #[.int .i64 0, .int .i64 0] 50)) := (((Gr.refl w).alloc _).alloc _).alloc _
  go_wp2_with fail
  refine (HS.out _ (KN.out.below HC.out)).mono ?_
  rintro e w1 ⟨rfl, hB, _⟩
  replace HC := Gr.step HC hB
  replace VV := VV.below hB
  clear hB HS
  obtain ⟨a0, a1⟩ := VV.fa.c2
  obtain ⟨b0, b1⟩ := VV.fb.c2
  go_wp2_with fail
  refine (HG.out _ (HB.out.below HC.out) (KB.out.below HC.out)).mono ?_
  rintro e w2 ⟨t, rfl, ht, hB⟩
  replace HC := Gr.step HC hB
  replace VV := VV.below hB
  have HT := hidb ht
  clear hB HG ht a0 a1 b0 b1
  obtain ⟨a0, a1⟩ := VV.fa.c2
  obtain ⟨b0, b1⟩ := VV.fb.c2
  go_wp2_with fail
  refine (HP.out _ _ (HB.out.below HC.out) HT.out).mono ?_
  rintro e w3 ⟨t1, r1, rfl, h1, _, hB⟩
  replace HC := Gr.step HC hB
  replace VV := VV.below hB
  replace HT := hidb (HT.out.below hB)
  obtain ⟨ad1, cap1, e1⟩ := h1.form
  have H1 := hidb h1
  rw [e1] at H1 ⊢
  clear hB HP h1 e1 a0 a1 b0 b1
  obtain ⟨a0, a1⟩ := VV.fa.c2
  obtain ⟨b0, b1⟩ := VV.fb.c2
  go_wp2_with fail
  refine (HQ.out _ _ (KB.out.below HC.out) HT.out).mono ?_
  rintro e w4 ⟨t2, r2, rfl, h2, _, hB⟩
  replace HC := Gr.step HC hB
  replace VV := VV.below hB
  replace H1 := hidb (H1.out.below hB)
  obtain ⟨ad2, cap2, e2⟩ := h2.form
  have H2 := hidb h2
  rw [e2] at H2 ⊢
  clear hB HQ h2 e2 HT a0 a1 b0 b1
  generalize hL1 : (WH.dn p).length = L1 at *
  generalize hL2 : (WH.dn q).length = L2 at *
  clear hL1 hL2
  go_wp2_with fail
  refine (HI1.out _ _ H1.out).mono ?_
  rintro e w5 ⟨rfl, rfl⟩
  go_wp2_with fail
  refine (HI2.out _ _ H2.out).mono ?_
  rintro e w6 ⟨rfl, rfl⟩
  go_wp2_with fail
  refine (HI1.out _ _ H1.out).mono ?_
  rintro e w7 ⟨rfl, rfl⟩
  go_wp2_with fail
  refine (HI2.out _ _ H2.out).mono ?_
  rintro e w8 ⟨rfl, rfl⟩
  clear HI1 HI2 H1 H2 HB KB KN
  obtain ⟨a0, a1⟩ := VV.fa.c2
  obtain ⟨b0, b1⟩ := VV.fb.c2
  obtain ⟨z0, z1⟩ := VV.fr.c2
  obtain ⟨g0, g1⟩ := VV.fr.f2
  have hge : w.heap.size ≤ w.heap.size + 1 + 1 := by omega
  have lt0 := VV.fa.lt
  have lt1 := VV.fb.lt
  have lt2 := VV.fr.lt
  have hlt : w.heap.size ≤ w8.heap.size := HC.out.size
  have ne0 : ¬ w8.heap.size = w.heap.size := by omega
  have ne1 : ¬ w8.heap.size = w.heap.size + 1 := by omega
  have ne2 : ¬ w8.heap.size = w.heap.size + 1 + 1 := by omega
  have me2 : ¬ w.heap.size + 1 + 1 = w8.heap.size := by omega
  cases m <;> cases n
  all_goals go_wp2
  all_goals first
    | (obtain ⟨r0, r1⟩ := ((At.fill2 (VV.fr.has rfl) (.int .i64 (p : Int)) (.int .i64 (q : Int))).alloc (.cells #[.int .i64 (p : Int), .int .i64 (q : Int)] 50)).c2
       exact bodyPost_ret (v := .tuple #[frV false p q, .nilIface]) (by simp [results, Tryd.results33, go_sem, r0, r1]) rfl ⟨rfl, ((HC.set hge _ _).set hge _ _).alloc _, by simp; omega⟩)
    | (obtain ⟨r0, r1⟩ := ((At.fill2 (VV.fr.has rfl) (.int .i64 (-(p : Int))) (.int .i64 (q : Int))).alloc (.cells #[.int .i64 (-(p : Int)), .int .i64 (q : Int)] 50)).c2
       exact bodyPost_ret (v := .tuple #[frV true p q, .nilIface]) (by simp [results, Tryd.results33, go_sem, r0, r1]) rfl ⟨rfl, ((HC.set hge _ _).set hge _ _).alloc _, by simp; omega⟩)
set_option maxRecDepth 4000 in
set_option maxHeartbeats 4000000 in
theorem frac_no (g : Nat → Addr) {w : World} {m n : Bool} {u v : Value} {x y : Int} (lx : x.natAbs < wlid) (ly : y.natAbs < wlid) (hy : ¬ y = 0) (h : Nm w m u x) (k : Nm w n v y) (hf : ¬ fits (rn x.natAbs y.natAbs) (rd x.natAbs y.natAbs)) (hl : Laid w g) : Calls Tryd.prog 33 #[.agg #[.bool m, u], .agg #[.bool n, v]] w fun e w' => e = .returned (.tuple #[fr0, errV g 1]) ∧ Below w.heap.size w w' ∧ w.heap.size < w'.heap.size := by
  have HS := hidb (fun w (h : Nm w n v y) => sign_nm h)
  have hs := sgn_ne hy
  have KN := hidb k
  obtain ⟨hb, hm⟩ := h
  obtain ⟨kb, hn⟩ := k
  clear hm hn
  have hg : 0 < Nat.gcd x.natAbs y.natAbs := Nat.gcd_pos_of_pos_right _ (by omega)
  have hgl : Nat.gcd x.natAbs y.natAbs ≤ y.natAbs := Nat.gcd_le_right _ (by omega)
  unfold fits rn rd at hf
  have lg : Nat.gcd x.natAbs y.natAbs < wlid := Nat.lt_of_le_of_lt hgl ly
  have HB := hidb hb
  have KB := hidb kb
  have HG := hidb (fun w (a : Pt w u (WH.dn x.natAbs)) (b : Pt w v (WH.dn y.natAbs)) => wgcd_any lx ly a b)
  have HP := hidb (fun w t (a : Pt w u (WH.dn x.natAbs)) (b : Pt w t (WH.dn (Nat.gcd x.natAbs y.natAbs))) => wdiv_any lx lg hg a b)
  have HQ := hidb (fun w t (a : Pt w v (WH.dn y.natAbs)) (b : Pt w t (WH.dn (Nat.gcd x.natAbs y.natAbs))) => wdiv_any ly lg hg a b)
  have HI1 := hidb (fun w s (h : x.natAbs / Nat.gcd x.natAbs y.natAbs < 18446744073709551616) (a : Pt w s (WH.dn (x.natAbs / Nat.gcd x.natAbs y.natAbs))) => least_any h a)
  have HI2 := hidb (fun w s (h : y.natAbs / Nat.gcd x.natAbs y.natAbs < 18446744073709551616) (a : Pt w s (WH.dn (y.natAbs / Nat.gcd x.natAbs y.natAbs))) => least_any h a)
  clear hb kb hg hgl lg lx ly hy
  generalize x.natAbs / Nat.gcd x.natAbs y.natAbs = p at *
  generalize y.natAbs / Nat.gcd x.natAbs y.natAbs = q at *
  generalize Nat.gcd x.natAbs y.natAbs = gg at *
  generalize sgn y = sy at *
  have hneE : ¬ w.heap.size + 1 + 1 = 0 := by
    have : 0 < w.heap.size := lt_of_cell (hl.cell 1 (by decide))
    omega
  have HLd := hidb hl
  clear hl
  go_enter Tryd.func33, Tryd.ntmps33
  have VV := FF.init w m n u v 65 50
  have HC : Gr w (((w.alloc (.cells #[.bool m, u] 65)).alloc (.cells #[.bool n, v] 65)).alloc (.cells #[.int .i64 0, .int .i64 0] 50)) := (((Gr.refl w).alloc _).alloc _).alloc _
  go_wp2_with fail
  refine (HS.out _ (KN.out.below HC.out)).mono ?_
  rintro e w1 ⟨rfl, hB, _⟩
  replace HC := Gr.step HC hB
  replace VV := VV.below hB
  clear hB HS
  obtain ⟨a0, a1⟩ := VV.fa.c2
  obtain ⟨b0, b1⟩ := VV.fb.c2
  go_wp2_with fail
  refine (HG.out _ (HB.out.below HC.out) (KB.out.below HC.out)).mono ?_
  rintro e w2 ⟨t, rfl, ht, hB⟩
  replace HC := Gr.step HC hB
  replace VV := VV.below hB
  have HT := hidb ht
  clear hB HG ht a0 a1 b0 b1
  obtain ⟨a0, a1⟩ := VV.fa.c2
  obtain ⟨b0, b1⟩ := VV.fb.c2
  go_wp2_with fail
  refine (HP.out _ _ (HB.out.below HC.out) HT.out).mono ?_
  rintro e w3 ⟨t1, r1, rfl, h1, _, hB⟩
  replace HC := Gr.step HC hB
  replace VV := VV.below hB
  replace HT := hidb (HT.out.below hB)
  obtain ⟨ad1, cap1, e1⟩ := h1.form
  have H1 := hidb h1
  rw [e1] at H1 ⊢
  clear hB HP h1 e1 a0 a1 b0 b1
  obtain ⟨a0, a1⟩ := VV.fa.c2
  obtain ⟨b0, b1⟩ := VV.fb.c2
  go_wp2_with fail
  refine (HQ.out _ _ (KB.out.below HC.out) HT.out).mono ?_
  rintro e w4 ⟨t2, r2, rfl, h2, _, hB⟩
  replace HC := Gr.step HC hB
  replace VV := VV.below hB
  replace H1 := hidb (H1.out.below hB)
  obtain ⟨ad2, cap2, e2⟩ := h2.form
  have H2 := hidb h2
  rw [e2] at H2 ⊢
  clear hB HQ h2 e2 HT a0 a1 b0 b1
  have CL : Hid (Laid w4 g) := HLd.out.below HC.out
  have cE : w4.cell? ⟨0, 0, none⟩ = some (errV g 1) := CL.out.cell 1 (by decide)
  have hge : w.heap.size ≤ w.heap.size + 1 + 1 := by omega
  have lt2 := VV.fr.lt
  obtain ⟨z0, z1⟩ := VV.fr.c2
  obtain ⟨g0, g1⟩ := VV.fr.f2
  have RA := VV.fr
  by_cases c1 : p < 18446744073709551616
  · have l1 := wlen_one c1
    by_cases c2 : q < 18446744073709551616
    · have l2 := wlen_one c2
      generalize hL1 : (WH.dn p).length = L1 at *
      generalize hL2 : (WH.dn q).length = L2 at *
      clear hL1 hL2
      by_cases c3 : p ≤ 4611686018427387904
      · have d1 : ¬ (4611686018427387904 : Int) < (p : Int) := by omega
        have d2 : (4611686018427387904 : Int) < (q : Int) := by
          have : ¬ q ≤ 4611686018427387904 := fun e => hf ⟨c3, e⟩
          omega
        clear hf c3
        go_wp2_with fail
        refine (HI1.out _ _ c1 H1.out).mono ?_
        rintro e w5 ⟨rfl, rfl⟩
        go_wp2_with fail
        refine (HI2.out _ _ c2 H2.out).mono ?_
        rintro e w6 ⟨rfl, rfl⟩
        go_upto_region 7 with fail
        go_region_held (fun w' => w'.cell? ⟨0, 0, none⟩ = some (errV g 1))
          (first | (with_reducible assumption) | exact cE | exact keep2 cE hneE)
          (fail)
        all_goals
          go_wp2
          exact bodyPost_ret (v := .tuple #[fr0, errV g 1]) (by simp [results, Tryd.results33, go_sem, z0, z1]) rfl ⟨rfl, by first | exact ((HC.set hge _ _).set hge _ _).drew | exact ((HC.drew.set hge _ _).set hge _ _) | exact (HC.set hge _ _).set hge _ _, by simp; omega⟩
      · have d1 : (4611686018427387904 : Int) < (p : Int) := by omega
        clear hf c3
        go_wp2_with fail
        refine (HI1.out _ _ c1 H1.out).mono ?_
        rintro e w5 ⟨rfl, rfl⟩
        go_upto_region 7 with fail
        go_region_held (fun w' => w'.cell? ⟨0, 0, none⟩ = some (errV g 1))
          (first | (with_reducible assumption) | exact cE | exact keep2 cE hneE)
          (fail)
        all_goals
          go_wp2
          exact bodyPost_ret (v := .tuple #[fr0, errV g 1]) (by simp [results, Tryd.results33, go_sem, z0, z1]) rfl ⟨rfl, by first | exact ((HC.set hge _ _).set hge _ _).drew | exact ((HC.drew.set hge _ _).set hge _ _) | exact (HC.set hge _ _).set hge _ _, by simp; omega⟩
    · have l2 := wlen_two c2
      generalize hL1 : (WH.dn p).length = L1 at *
      generalize hL2 : (WH.dn q).length = L2 at *
      clear hL1 hL2 hf
      go_upto_region 7 with fail
      go_region_held (fun w' => w'.cell? ⟨0, 0, none⟩ = some (errV g 1))
        (first | (with_reducible assumption) | exact cE | exact keep2 cE hneE)
        (fail)
      all_goals
        go_wp2
        exact bodyPost_ret (v := .tuple #[fr0, errV g 1]) (by simp [results, Tryd.results33, go_sem, z0, z1]) rfl ⟨rfl, by first | exact ((HC.set hge _ _).set hge _ _).drew | exact ((HC.drew.set hge _ _).set hge _ _) | exact (HC.set hge _ _).set hge _ _, by simp; omega⟩
  · have l1 := wlen_two c1
    generalize hL1 : (WH.dn p).length = L1 at *
    generalize hL2 : (WH.dn q).length = L2 at *
    clear hL1 hL2 hf
    go_upto_region 7 with fail
    go_region_held (fun w' => w'.cell? ⟨0, 0, none⟩ = some (errV g 1))
      (first | (with_reducible assumption) | exact cE | exact keep2 cE hneE)
      (fail)
    all_goals
      go_wp2
      exact bodyPost_ret (v := .tuple #[fr0, errV g 1]) (by simp [results, Tryd.results33, go_sem, z0, z1]) rfl ⟨rfl, by first | exact ((HC.set hge _ _).set hge _ _).drew | exact ((HC.drew.set hge _ _).set hge _ _) | exact (HC.set hge _ _).set hge _ _, by simp; omega⟩
theorem frac_all (g : Nat → Addr) {w : World} {m n : Bool} {u v : Value} {x y : Int} (lx : x.natAbs < wlid) (ly : y.natAbs < wlid) (hy : ¬ y = 0) (h : Nm w m u x) (k : Nm w n v y) (hl : Laid w g) : Calls Tryd.prog 33 #[.agg #[.bool m, u], .agg #[.bool n, v]] w fun e w' => e = .returned (.tuple #[.agg #[.int .i64 (qx x y), .int .i64 (qy x y)], qe g x y]) ∧ Below w.heap.size w w' ∧ w.heap.size < w'.heap.size := by
  unfold qx qy qe rx ry re
  by_cases hf : fits (rn x.natAbs y.natAbs) (rd x.natAbs y.natAbs)
  · rw [if_pos hf, if_pos hf, if_pos hf]
    exact frac_ok lx ly hy h k hf
  · rw [if_neg hf, if_neg hf, if_neg hf]
    exact frac_no g lx ly hy h k hf hl
end Go.Proofs.YtecmkjefoppbiaaDoor
