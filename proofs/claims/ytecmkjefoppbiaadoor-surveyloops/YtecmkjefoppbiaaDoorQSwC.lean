/-
  survey.Survey's equations.
-/
import Derived.Test.YtecmkjefoppbiaaDoorQJ20
namespace Go.Proofs.YtecmkjefoppbiaaDoor
open Go.RowKit
attribute [local go_sem ↓] Go.wp_at_zero Go.wp_at_succ

section
variable {l : List Sn} {ad : Option Addr} {b o cap : Nat}
set_option maxRecDepth 4000 in
set_option maxHeartbeats 16000000 in
theorem sequations_any (w : World) (h : SeL 32 w ad b o cap l) {M : Nat} (hM : 1 ≤ M ∧ M ≤ 12) (hl : l.length ≤ 60) (hF : FT M l) (B : Int) : Calls Tryd.prog 29 #[svV M B (.slice ad l.length cap)] w fun e w' => ∃ v base vs Ps, e = .returned v ∧ RN w' base v vs Ps M (fun i j => eqM l M l.length (i + 1) (j + 1)) ∧ vs.length = M - 1 ∧ (∀ x ∈ vs, ∃ ad l c, x = .slice ad l c) ∧ w.heap.size ≤ base ∧ base ≤ w'.heap.size ∧ Gr w w' := by
  have HF := hidb hF
  have HM := hidb hM
  have HRow := hidb h
  have HIx := hidb h.ix
  have HBd := hidb (fun a b k hk => eqM_bd hF (M := M) a b k hk)
  obtain ⟨n, hn⟩ : ∃ n, n = l.length := ⟨_, rfl⟩
  have HNl : Hid (n = l.length ∧ n ≤ 60) := ⟨hn, by omega⟩
  rw [← hn] at HIx ⊢
  clear hn h hl hF
  obtain ⟨CR, hCR, mkR⟩ := made_runR M (by omega)
  obtain ⟨CI, hCI, mkI⟩ := made_runI (M + 1) (by omega)
  push_cast at mkI
  have PX : Hid (At (w.alloc (.cells #[.int .i64 (M : Int), .int .i64 B, .slice ad n cap] 34)) w.heap.size [.int .i64 (M : Int), .int .i64 B, .slice ad n cap] ∧ Gr w (w.alloc (.cells #[.int .i64 (M : Int), .int .i64 B, .slice ad n cap] 34))) := ⟨At.new3 _ _ _ _ _, (Gr.refl w).alloc _⟩
  unfold svV
  obtain ⟨z0, z1, z2⟩ := PX.out.1.c3
  obtain ⟨XB, hXB⟩ : ∃ z, z = w.heap.size := ⟨_, rfl⟩
  have hSz : (w.alloc (.cells #[.int .i64 (M : Int), .int .i64 B, .slice ad n cap] 34)).heap.size = XB + 1 := by rw [hXB]; simp
  have AW := At.newArr (w.alloc (.cells #[.int .i64 (M : Int), .int .i64 B, .slice ad n cap] 34)) CR 28
  rw [hSz, hCR, ← slL_zero (XB + 1) M] at AW
  rw [← hXB] at PX z0 z1 z2
  have e1 : IntKind.i64.wrap ((M : Int) + 1) = (M : Int) + 1 := wr_in (by omega) (by omega)
  have E0 : Hid (EQ w ((w.alloc (.cells #[.int .i64 (M : Int), .int .i64 B, .slice ad n cap] 34)).alloc (.cells CR 28)) XB (XB + 1) M 0 [.int .i64 (M : Int), .int .i64 B, .slice ad n cap] (fun _ _ => 0) ∧ ((w.alloc (.cells #[.int .i64 (M : Int), .int .i64 B, .slice ad n cap] 34)).alloc (.cells CR 28)).heap.size = XB + 1 + 1) :=
    ⟨⟨PX.out.1.alloc _, AW, fun i hi => by omega, PX.out.2.alloc _, by omega, by omega⟩, by simp; omega⟩
  clear AW
  go_enter Tryd.func29, Tryd.ntmps29
  go_upto_region 2 with fail
  rw [← hXB]
  generalize ((w.alloc (.cells #[.int .i64 (M : Int), .int .i64 B, .slice ad n cap] 34)).alloc (.cells CR 28)) = W1 at *
  clear z0 z1 z2 hSz PX hXB
  go_wp2
  go_loopw [20] (fun t wr => ∃ k : Nat, k ≤ M ∧ t = .int .i64 (k : Int) ∧ Hid (EQ w wr XB (XB + 1) M k [.int .i64 (M : Int), .int .i64 B, .slice ad n cap] (fun _ _ => 0) ∧ wr.heap.size = XB + 1 + 1 + k)) (fun t _ => M - (intOf t).toNat)
  case atStart => exact ⟨0, Nat.zero_le _, rfl, E0⟩
  case round =>
    clear E0
    obtain ⟨k, hk, rfl, E⟩ := hrel
    obtain ⟨z0, z1, z2⟩ := E.out.1.x.c3
    by_cases h1 : ¬ k < M
    · have h1' : ¬ (k : Int) < (M : Int) := by omega
      obtain rfl : k = M := by omega
      clear h1 hk
      have E1 : Hid (EQ w wr XB (XB + 1) k k [.int .i64 (k : Int), .int .i64 B, .slice ad n cap] (eqM l k 0)) := E.out.1
      clear E
      go_wp2
      clear z0 z1 z2
      go_loopw [34] (fun t wr => ∃ j : Nat, j ≤ n ∧ t = .int .i64 (j : Int) ∧ Hid (EQ w wr XB (XB + 1) k k [.int .i64 (k : Int), .int .i64 B, .slice ad n cap] (eqM l k j))) (fun t _ => n - (intOf t).toNat)
      case atStart => exact ⟨0, Nat.zero_le _, rfl, E1⟩
      case round =>
        clear E1
        obtain ⟨j, hj, rfl, E⟩ := hrel
        obtain ⟨z0, z1, z2⟩ := E.out.x.c3
        by_cases h2 : ¬ j < n
        · have h2' : ¬ (j : Int) < (n : Int) := by omega
          obtain rfl : j = n := by omega
          have HFb := hidb (fun a b => HBd.out a b j (by have := HNl.out; omega))
          obtain ⟨f, hf⟩ : ∃ f, f = eqM l k j := ⟨_, rfl⟩
          have HFe := hidb hf
          rw [← hf] at E HFb
          clear hf
          obtain ⟨base, hbase⟩ : ∃ z, z = wr.heap.size := ⟨_, rfl⟩
          have hb0 := (E.out.r (k - 1) (by omega)).lt
          have E1 : Hid (RW w wr XB (XB + 1) k [.int .i64 (k : Int), .int .i64 B, .slice ad j cap] f base (.slice none 0 0) [] [] (fun a b => f (a + 1) (b + 1)) (.slice none 0 0) [] ((fun a b => f (a + 1) (b + 1)) 0)) :=
            ⟨E.out, RN.nil _ _ _ _, ⟨World.ownsRow_nil _ _ _ _, (fun j hj => by simp at hj)⟩, (fun g e => by cases e), ⟨.inr rfl, .inr rfl⟩, (fun x hx => by simp at hx), by omega, by omega⟩
          have HBs : Hid (w.heap.size ≤ base) := by have := E.out.gr.out.size; show _ ≤ _; omega
          obtain ⟨K, hK⟩ : ∃ K, K + 1 = k := ⟨k - 1, by omega⟩
          obtain ⟨c, hsl, hc, -⟩ := rrslice (XB + 1) k k (by omega) (Nat.le_refl _)
          rw [show k - 1 = K by omega] at hsl
          have HC := hidb hc
          have HK := hidb hK
          clear E h2 hj hbase hb0 hc hK HBd
          go_wp2
          clear z0 z1 z2
          go_loopw [9, 112] (fun v t wr => ∃ (i q : Nat) (vs : List Value) (Ps : List (List Nu)), i ≤ K ∧ q = i ∧ i = vs.length ∧ t = .int .i64 (i : Int) ∧ Hid (RW w wr XB (XB + 1) k [.int .i64 (k : Int), .int .i64 B, .slice ad j cap] f base v vs Ps (fun a b => f (a + 1) (b + 1)) (.slice none 0 0) [] ((fun a b => f (a + 1) (b + 1)) i))) (fun _ t _ => K - (intOf t).toNat)
          case atStart => exact ⟨0, 0, [], [], Nat.zero_le _, rfl, rfl, rfl, E1⟩
          case round =>
            clear E1
            obtain ⟨i, q, vs, Ps, hi, hqi, hiv, rfl, E⟩ := hrel
            by_cases h3 : ¬ i < K
            · have h3' : ¬ (i : Int) < (K : Int) := by omega
              have HZ : Hid (RN wr base u9 vs Ps k (fun a b => f (a + 1) (b + 1)) ∧ vs.length = k - 1 ∧ (∀ x ∈ vs, ∃ ad l c, x = .slice ad l c) ∧ w.heap.size ≤ base ∧ base ≤ wr.heap.size ∧ Gr w wr) := ⟨E.out.n, by have := HK.out; omega, E.out.t, HBs.out, E.out.b.2, E.out.e.gr⟩
              clear h3 E hi hiv hqi
              go_wp2
              go_ret
              exact ⟨u9, rfl, base, vs, ⟨Ps, by rw [← HFe.out]; exact HZ.out.1⟩, HZ.out.2⟩
            · have h3' : (i : Int) < (K : Int) := by omega
              have H3 := hidb (show i < K by omega)
              have hc1 : c = 1 := HC.out (by have := HK.out; omega)
              have e7 : IntKind.i64.wrap ((i : Int) + 1) = ((i + 1 : Nat) : Int) := by rw [show (i : Int) + 1 = ((i + 1 : Nat) : Int) by omega]; exact wr_in (by omega) (by have := HM.out; have := HK.out; omega)
              have ixi : ∀ w, (Instr.indexAt 27 (.slice (some ⟨XB + 1, c, none⟩) K K) (.int .i64 (i : Int))).run Tryd.prog w = .ok (.pointer (some ⟨XB + 1, i + 1, none⟩)) w := fun w => by
                have := rrindexo (XB + 1) c K K i H3.out w
                rw [hc1] at this ⊢
                rwa [Nat.add_comm 1 i] at this
              have ri := E.out.e.row (i := i + 1) (by have := HK.out; have := H3.out; omega) (Nat.le_refl _)
              have jsl := islice1 (XB + 1 + 1 + (i + 1)) (k + 1) (k + 1) (by have := HM.out; omega) (Nat.le_refl _)
              rw [Nat.add_sub_cancel] at jsl
              have HIV := hidb hiv
              clear h3 hi hc1 hiv hqi
              go_wp2
              clear ixi ri jsl hsl
              have E3 : Hid (RW w wr XB (XB + 1) k [.int .i64 (k : Int), .int .i64 B, .slice ad j cap] f base u9 vs Ps (fun a b => f (a + 1) (b + 1)) (.slice none 0 0) [] (fun b => f (i + 1) (b + 1))) := E.out
              clear E
              go_loopw [12, 119] (fun v t wr => ∃ (a q : Nat) (P : List Nu), a ≤ k ∧ q = a ∧ a = P.length ∧ t = .int .i64 (a : Int) ∧ Hid (RW w wr XB (XB + 1) k [.int .i64 (k : Int), .int .i64 B, .slice ad j cap] f base u9 vs Ps (fun a b => f (a + 1) (b + 1)) v P (fun b => f (i + 1) (b + 1)))) (fun _ t _ => k - (intOf t).toNat)
              case atStart => exact ⟨0, 0, [], Nat.zero_le _, rfl, rfl, rfl, E3⟩
              case round =>
                clear E3
                obtain ⟨a, q2, P, ha, hqa, haP, rfl, E⟩ := hrel
                by_cases h4 : ¬ a < k
                · have h4' : ¬ (a : Int) < (k : Int) := by omega
                  have HPk : Hid (P.length = k) := by show _ = _; omega
                  obtain ⟨adP, cpP, rfl⟩ := own_sh2n E.out.r.r
                  obtain ⟨adv, cpv, rfl⟩ := own_sh E.out.n.o
                  have HR5 : Hid (wr.ownsRow base 61 1 (.slice adv vs.length cpv) vs.length vs ∧ base ≤ wr.heap.size) := ⟨E.out.n.o, E.out.b.2⟩
                  have HVl : Hid (vs.length ≤ 200) := by have := HIV.out; have := H3.out; have := HM.out; have := HK.out; show _ ≤ _; omega
                  clear h4 ha hqa haP
                  go_upto_region 29 with (at_builtin; refine wpList_ns _ base (.slice adv vs.length cpv) vs (.slice adP P.length cpP) vs.length wr.heap.size _ _ rfl rfl rfl rfl HVl.out rfl (own_kept HR5.out.1 ((Below.refl _ _).alloc (Nat.le_refl _) _)) (At.at1 rfl _ _) (by have := HR5.out.2; simp; omega) (wr.heap.size + 1) (by simp) ?_; intro g7 cap7 w7 hown hgrow hat)
                  have E7 := hidb (RW.row (G' := fun b => f (i + 1 + 1) (b + 1)) E.out HPk.out (by have := HM.out; omega) rfl (by rw [← HIV.out]) hown.out hgrow.out hat.out)
                  clear hown hgrow hat HR5 E
                  have HI7 : Hid (i + 1 = (vs ++ [Value.slice adP P.length cpP]).length) := by show _ = _; rw [List.length_append, ← HIV.out]; rfl
                  go_wp2
                  go_roundw
                  case rel => exact ⟨i + 1, _, _, _, H3.out, rfl, HI7.out, by go_num, E7⟩
                  case measure => have := H3.out; simp [intOf]; omega
                · have h4' : (a : Int) < (k : Int) := by omega
                  have H4 := hidb (show a < k by omega)
                  have e6 : IntKind.i64.wrap ((a : Int) + 1) = ((a + 1 : Nat) : Int) := by rw [show (a : Int) + 1 = ((a + 1 : Nat) : Int) by omega]; exact wr_in (by omega) (by have := HM.out; omega)
                  have ixa := iindex (XB + 1 + 1 + (i + 1)) 1 k k a H4.out
                  rw [Nat.add_comm 1 a] at ixa
                  have ca := (E.out.e.cell (i := i + 1) (j := a + 1) (by have := HK.out; have := H3.out; omega) (by have := H4.out; omega)).1
                  have hfb := HFb.out (i + 1) (a + 1)
                  have HOf := hidb (fun w => of_any (n := f (i + 1) (a + 1)) (by have := HNl.out; omega) (by have := HNl.out; omega) w)
                  obtain ⟨z, hz⟩ : ∃ z, z = f (i + 1) (a + 1) := ⟨_, rfl⟩
                  have HZe := hidb hz
                  rw [← hz] at ca HOf
                  have HAP := hidb haP
                  clear h4 ha hqa haP hfb hz
                  go_wp2_with fail
                  refine (HOf.out _).mono ?_
                  rintro e w5 ⟨m, x, rfl, k1, k2, -⟩
                  obtain ⟨adx, Lx, cpx, rfl⟩ := k1.form
                  have E5 := hidb (E.out.below k2)
                  have HNm := hidb k1
                  clear k1 k2 E HOf ixa ca
                  obtain ⟨ad5, cap5, rfl⟩ := own_sh2n E5.out.r.r
                  rw [← HAP.out] at E5
                  have HR5 : Hid (w5.ownsRow base 65 2 (.slice ad5 a cap5) a (nuL P) ∧ base ≤ w5.heap.size) := ⟨by have := E5.out.r.r; rw [← HAP.out] at this; exact this, E5.out.b.2⟩
                  rw [← HAP.out]
                  go_upto_region 27 with (at_builtin; refine wpList_nu _ base (.slice ad5 a cap5) P m (.slice adx Lx cpx) a w5.heap.size _ _ rfl rfl rfl rfl (by have := H4.out; have := HM.out; omega) rfl (own_kept HR5.out.1 ((Below.refl _ _).alloc (Nat.le_refl _) _)) (At.at2 rfl _ _ _) (by have := HR5.out.2; simp; omega) (w5.heap.size + 1) (by simp) ?_; intro g6 cap6 w6 hown hgrow hat)
                  have E6 := hidb (RW.num E5.out HAP.out (by rw [← HZe.out]; exact HNm.out) hown.out hgrow.out hat.out)
                  clear hown hgrow hat HR5 E5
                  go_wp2
                  go_roundw
                  case rel => exact ⟨a + 1, a + 1, _, H4.out, rfl, by rw [List.length_append, ← HAP.out]; rfl, by go_num, E6⟩
                  case measure => have := H4.out; simp [intOf]; omega
        · have h2' : (j : Int) < (n : Int) := by omega
          have H2 := hidb (show j < n by omega)
          have hjl : j < l.length := by have := HNl.out; omega
          have e9 : IntKind.i64.wrap ((j : Int) + 1) = ((j + 1 : Nat) : Int) := by rw [show (j : Int) + 1 = ((j + 1 : Nat) : Int) by omega]; exact wr_in (by omega) (by have := HNl.out; omega)
          have ix := HIx.out j H2.out
          obtain ⟨⟨c0, c1, c2, c3⟩, -⟩ := (HRow.out.below E.out.gr.out).row j hjl
          obtain ⟨⟨f1, f2⟩, ⟨t1, t2⟩, ft, w1, w2, u1, u2⟩ := HF.out j hjl
          have HWu := hidb (wu_bd w1 w2 u1 u2)
          have HEq : Hid (∀ a b, eqM l k (j + 1) a b = eqM l k j a b + dlt k (snX l j) a b) := fun a b => rfl
          have HB := hidb (fun a b => HBd.out a b j (by omega))
          obtain ⟨y, hy⟩ : ∃ y : Nat, (snX l j).f = y := ⟨(snX l j).f.toNat, by omega⟩
          obtain ⟨x, hx⟩ : ∃ x : Nat, (snX l j).t = x := ⟨(snX l j).t.toNat, by omega⟩
          unfold dlt at HEq
          rw [hy, hx, Int.toNat_natCast, Int.toNat_natCast] at HEq
          rw [hy] at c0 f1 f2
          rw [hx] at c1 t1 t2
          have hyx : ¬ y = x := fun e => ft (by rw [hy, hx, e])
          clear hy hx ft
          generalize (snX l j).u = u at *
          generalize (snX l j).w = gw at *
          generalize hG : eqM l k (j + 1) = G at HEq
          have HG := hidb hG
          generalize eqM l k j = F0 at *
          have HX : Hid (x < k ∧ y < k) := ⟨by omega, by omega⟩
          have AR := hidb (At.new4 wr (.int .i64 (y : Int)) (.int .i64 (x : Int)) (.int .i64 u) (.int .i64 gw) 47)
          have E2 := hidb (E.out.below ((Below.refl _ _).alloc (Nat.le_refl _) (.cells #[.int .i64 (y : Int), .int .i64 (x : Int), .int .i64 u, .int .i64 gw] 47)))
          have hNx := (E.out.r x HX.out.1).lt
          have hNy := (E.out.r y HX.out.2).lt
          clear hjl hG f1 f2 t1 t2
          go_upto_region 10 with fail
          clear c0 c1 c2 c3 ix E z0 z1 z2
          obtain ⟨NB, hNB⟩ : ∃ z, z = wr.heap.size := ⟨_, rfl⟩
          rw [← hNB] at AR hNx hNy ⊢
          generalize wr.alloc (.cells #[.int .i64 (y : Int), .int .i64 (x : Int), .int .i64 u, .int .i64 gw] 47) = W3 at *
          clear hNB
          obtain ⟨c0, c1, c2, c3⟩ := AR.out.c4
          have rx := E2.out.row HX.out.1 (Nat.le_refl _)
          have ry := E2.out.row HX.out.2 (Nat.le_refl _)
          have ixx := rrindex (XB + 1) k k x HX.out.1
          have ixy := rrindex (XB + 1) k k y HX.out.2
          go_upto_region 11 with (go_quiet (fail))
          replace E2 := hidb (E2.out.drewN nq)
          replace AR := hidb (AR.out.drewN nq)
          generalize W3.drewN nq = W0 at *
          clear rx ry ixx ixy c0 c1 c2 c3
          have E := E2
          clear E2
          have HWb : Hid (1 ≤ gw ∧ gw ≤ 1000) := ⟨w1, w2⟩
          have HB0 : Hid (∀ a b, -377487360000 ≤ F0 a b ∧ F0 a b ≤ 377487360000) := fun a b => by
            have h1 := HB.out a b
            have h2 := H2.out
            have h3 := HNl.out
            omega
          clear HB w1 w2 u1 u2
          have HB := HB0
          clear HB0
          refine wp_region_held_drew (S := (fun w' => (w'.cell? ⟨NB, 0, none⟩ = some (.int .i64 (y : Int)) ∧ w'.cell? ⟨NB, 1, none⟩ = some (.int .i64 (x : Int)) ∧ w'.cell? ⟨NB, 2, none⟩ = some (.int .i64 u) ∧ w'.cell? ⟨NB, 3, none⟩ = some (.int .i64 gw)) ∧ (w'.cell? ⟨XB, 0, none⟩ = some (.int .i64 (k : Int)) ∧ w'.cell? ⟨XB, 1, none⟩ = some (.int .i64 B) ∧ w'.cell? ⟨XB, 2, none⟩ = some (.slice ad n cap)))) (by kernel_rfl) ?_ (fun hHeld => ?_)
          · (try dsimp only); exact ⟨AR.out.drew.c4, E.out.drew.x.c3⟩
          replace E := hidb E.out.drew
          replace AR := hidb AR.out.drew
          generalize W0.drew = V0 at *
          obtain ⟨d0, d1⟩ := E.out.cell (i := y) (j := y) HX.out.2 (Nat.le_of_lt HX.out.2)
          have ixd := indexI (XB + 1 + 1 + y) (k + 1) (k + 1) y (by have := HX.out; omega)
          have hbd := HB.out y y
          obtain ⟨F1, hF⟩ : ∃ G : Nat → Nat → Int, G = fun a b => F0 a b + pt2 y y (gw) a b := ⟨_, rfl⟩
          have HF1 : Hid (∀ a b, F1 a b = F0 a b + pt2 y y (gw) a b) := fun a b => by rw [hF]
          have HBn : Hid (∀ a b, -378535936000 ≤ F1 a b ∧ F1 a b ≤ 378535936000) := fun a b => by
            have h1 := HB.out a b
            have h2 := pt2_bd y y (d := gw) (D := 1048576000) (by have := HWu.out; have := HWb.out; omega) (by omega) a b
            rw [HF1.out a b]
            omega
          have e5 : IntKind.i64.wrap (F0 y y + gw) = F0 y y + gw := by rw [show F0 y y + gw = F0 y y + gw by omega]; exact wr_in (by have := HWu.out; have := HWb.out; omega) (by have := HWu.out; have := HWb.out; omega)
          have E5 : Hid (EQ w (V0.setCell ⟨XB + 1 + 1 + y, y, none⟩ (.int .i64 (F0 y y + gw))) XB (XB + 1) k k [.int .i64 (k : Int), .int .i64 B, .slice ad n cap] F1 ∧ At (V0.setCell ⟨XB + 1 + 1 + y, y, none⟩ (.int .i64 (F0 y y + gw))) NB [.int .i64 (y : Int), .int .i64 (x : Int), .int .i64 u, .int .i64 gw]) := ⟨E.out.put HX.out.2 (Nat.le_of_lt HX.out.2) _ (by rw [HF1.out]; unfold pt2; rw [if_pos ⟨rfl, rfl⟩]) (fun a b q => by rw [HF1.out]; unfold pt2; rw [if_neg q]; omega), AR.out.skip (by have := hNy; omega) _ _⟩
          clear hF hbd
          refine wpAnyH_take (i := 0) (v := ?vq0q0x18) rfl (by kernel_rfl) (by kernel_rfl) (by kernel_rfl) (fun _ _ _ h => h) (Or.inl ⟨by kernel_rfl, ?hq0q0x18⟩) (by assumption) ?rq0q0x18
          case hq0q0x18 => (intro w hSw; (try dsimp only at hSw); obtain ⟨⟨c0, c1, c2, c3⟩, z0, z1, z2⟩ := hSw; go_simp; try with_reducible rfl)
          (try simp only [Act.put, List.getElem_toArray, List.getElem_cons_zero, List.setIfInBounds_toArray, List.set_cons_zero, List.set_cons_succ])
          refine wpAnyH_take (i := 1) (v := ?vq0q1x21) rfl (by kernel_rfl) (by kernel_rfl) (by kernel_rfl) (fun _ _ _ h => h) (Or.inl ⟨by kernel_rfl, ?hq0q1x21⟩) (by assumption) ?rq0q1x21
          case hq0q1x21 => (intro w hSw; (try dsimp only at hSw); obtain ⟨⟨c0, c1, c2, c3⟩, z0, z1, z2⟩ := hSw; go_simp; try with_reducible rfl)
          (try simp only [Act.put, List.getElem_toArray, List.getElem_cons_zero, List.getElem_cons_succ, List.setIfInBounds_toArray, List.set_cons_zero, List.set_cons_succ])
          refine wpAnyH_take (i := 2) (v := ?vq0q2x24) rfl (by kernel_rfl) (by kernel_rfl) (by kernel_rfl) (fun _ _ _ h => h) (Or.inl ⟨by kernel_rfl, ?hq0q2x24⟩) (by assumption) ?rq0q2x24
          case hq0q2x24 => (intro w hSw; (try dsimp only at hSw); obtain ⟨⟨c0, c1, c2, c3⟩, z0, z1, z2⟩ := hSw; go_simp; try with_reducible rfl)
          (try simp only [Act.put, List.getElem_toArray, List.getElem_cons_zero, List.getElem_cons_succ, List.setIfInBounds_toArray, List.set_cons_zero, List.set_cons_succ])
          refine wpAnyH_take (i := 3) (v := ?vq0q3x27) rfl (by kernel_rfl) (by kernel_rfl) (by kernel_rfl) (fun _ _ _ h => h) (Or.inl ⟨by kernel_rfl, ?hq0q3x27⟩) (by assumption) ?rq0q3x27
          case hq0q3x27 => (intro w hSw; (try dsimp only at hSw); obtain ⟨⟨c0, c1, c2, c3⟩, z0, z1, z2⟩ := hSw; go_simp; try with_reducible rfl)
          (try simp only [Act.put, List.getElem_toArray, List.getElem_cons_zero, List.getElem_cons_succ, List.setIfInBounds_toArray, List.set_cons_zero, List.set_cons_succ])
          refine wpAnyH_take (i := 5) (v := ?vq0q5x30) rfl (by kernel_rfl) (by kernel_rfl) (by kernel_rfl) (fun _ _ _ h => h) (Or.inl ⟨by kernel_rfl, ?hq0q5x30⟩) (by assumption) ?rq0q5x30
          case hq0q5x30 => (intro w hSw; (try dsimp only at hSw); obtain ⟨⟨c0, c1, c2, c3⟩, z0, z1, z2⟩ := hSw; go_simp; try with_reducible rfl)
          (try simp only [Act.put, List.getElem_toArray, List.getElem_cons_zero, List.getElem_cons_succ, List.setIfInBounds_toArray, List.set_cons_zero, List.set_cons_succ])
          refine wpAnyH_take (i := 6) (v := ?vq0q6x33) rfl (by kernel_rfl) (by kernel_rfl) (by kernel_rfl) (fun _ _ _ h => h) (Or.inl ⟨by kernel_rfl, ?hq0q6x33⟩) (by assumption) ?rq0q6x33
          case hq0q6x33 => (intro w hSw; (try dsimp only at hSw); obtain ⟨⟨c0, c1, c2, c3⟩, z0, z1, z2⟩ := hSw; go_simp; try with_reducible rfl)
          (try simp only [Act.put, List.getElem_toArray, List.getElem_cons_zero, List.getElem_cons_succ, List.setIfInBounds_toArray, List.set_cons_zero, List.set_cons_succ])
          refine wpAnyH_ready (rs := [4]) (by kernel_rfl) (by simp) ?_
          refine AllReadyH.cons rfl (fun K hK => ?_) AllReadyH.nil
          go_simp
          refine hK.out _ _ ?_ (fun hHeld => ?_)
          · (try dsimp only); exact hHeld
          clear hK K
          refine wpAnyH_take (i := 7) (v := ?vq0q7x42) rfl (by kernel_rfl) (by kernel_rfl) (by kernel_rfl) (fun _ _ _ h => h) (Or.inl ⟨by kernel_rfl, ?hq0q7x42⟩) (by assumption) ?rq0q7x42
          case hq0q7x42 => (intro w hSw; (try dsimp only at hSw); obtain ⟨⟨c0, c1, c2, c3⟩, z0, z1, z2⟩ := hSw; go_simp; try with_reducible rfl)
          (try simp only [Act.put, List.getElem_toArray, List.getElem_cons_zero, List.getElem_cons_succ, List.setIfInBounds_toArray, List.set_cons_zero, List.set_cons_succ])
          refine wpAnyH_take (i := 8) (v := ?vq0q8x45) rfl (by kernel_rfl) (by kernel_rfl) (by kernel_rfl) (fun _ _ _ h => h) (Or.inl ⟨by kernel_rfl, ?hq0q8x45⟩) (by assumption) ?rq0q8x45
          case hq0q8x45 => (intro w hSw; (try dsimp only at hSw); obtain ⟨⟨c0, c1, c2, c3⟩, z0, z1, z2⟩ := hSw; go_simp; try with_reducible rfl)
          (try simp only [Act.put, List.getElem_toArray, List.getElem_cons_zero, List.getElem_cons_succ, List.setIfInBounds_toArray, List.set_cons_zero, List.set_cons_succ])
          refine wpAnyH_ready (rs := [9]) (by kernel_rfl) (by simp) ?_
          refine AllReadyH.cons rfl (fun K hK => ?_) AllReadyH.nil
          go_simp
          refine hK.out _ _ ?_ (fun hHeld => ?_)
          · (try dsimp only); exact ⟨E5.out.2.c4, E5.out.1.x.c3⟩
          clear hK K
          refine wpAnyH_done (by kernel_rfl) ?_ _
          clear E AR HB d0 d1 ixd e5
          have E := hidb E5.out.1
          have AR := hidb E5.out.2
          have HB := HBn
          clear E5 HBn
          generalize V0.setCell ⟨XB + 1 + 1 + y, y, none⟩ (.int .i64 (F0 y y + gw)) = W1 at *
          go_upto_region 12 with fail
          refine wp_region_held_drew (S := (fun w' => (w'.cell? ⟨NB, 0, none⟩ = some (.int .i64 (y : Int)) ∧ w'.cell? ⟨NB, 1, none⟩ = some (.int .i64 (x : Int)) ∧ w'.cell? ⟨NB, 2, none⟩ = some (.int .i64 u) ∧ w'.cell? ⟨NB, 3, none⟩ = some (.int .i64 gw)) ∧ (w'.cell? ⟨XB, 0, none⟩ = some (.int .i64 (k : Int)) ∧ w'.cell? ⟨XB, 1, none⟩ = some (.int .i64 B) ∧ w'.cell? ⟨XB, 2, none⟩ = some (.slice ad n cap)))) (by kernel_rfl) ?_ (fun hHeld => ?_)
          · (try dsimp only); exact ⟨AR.out.drew.c4, E.out.drew.x.c3⟩
          replace E := hidb E.out.drew
          replace AR := hidb AR.out.drew
          generalize W1.drew = V1 at *
          obtain ⟨d0, d1⟩ := E.out.cell (i := y) (j := x) HX.out.2 (Nat.le_of_lt HX.out.1)
          have ixd := indexI (XB + 1 + 1 + y) (k + 1) (k + 1) x (by have := HX.out; omega)
          have hbd := HB.out y x
          obtain ⟨F2, hF⟩ : ∃ G : Nat → Nat → Int, G = fun a b => F1 a b + pt2 y x (-gw) a b := ⟨_, rfl⟩
          have HF2 : Hid (∀ a b, F2 a b = F1 a b + pt2 y x (-gw) a b) := fun a b => by rw [hF]
          have HBn : Hid (∀ a b, -379584512000 ≤ F2 a b ∧ F2 a b ≤ 379584512000) := fun a b => by
            have h1 := HB.out a b
            have h2 := pt2_bd y x (d := -gw) (D := 1048576000) (by have := HWu.out; have := HWb.out; omega) (by omega) a b
            rw [HF2.out a b]
            omega
          have e5 : IntKind.i64.wrap (F1 y x - gw) = F1 y x + (-gw) := by rw [show F1 y x - gw = F1 y x + (-gw) by omega]; exact wr_in (by have := HWu.out; have := HWb.out; omega) (by have := HWu.out; have := HWb.out; omega)
          have E5 : Hid (EQ w (V1.setCell ⟨XB + 1 + 1 + y, x, none⟩ (.int .i64 (F1 y x + (-gw)))) XB (XB + 1) k k [.int .i64 (k : Int), .int .i64 B, .slice ad n cap] F2 ∧ At (V1.setCell ⟨XB + 1 + 1 + y, x, none⟩ (.int .i64 (F1 y x + (-gw)))) NB [.int .i64 (y : Int), .int .i64 (x : Int), .int .i64 u, .int .i64 gw]) := ⟨E.out.put HX.out.2 (Nat.le_of_lt HX.out.1) _ (by rw [HF2.out]; unfold pt2; rw [if_pos ⟨rfl, rfl⟩]) (fun a b q => by rw [HF2.out]; unfold pt2; rw [if_neg q]; omega), AR.out.skip (by have := hNy; omega) _ _⟩
          clear hF hbd
          refine wpAnyH_take (i := 0) (v := ?vq1q0x18) rfl (by kernel_rfl) (by kernel_rfl) (by kernel_rfl) (fun _ _ _ h => h) (Or.inl ⟨by kernel_rfl, ?hq1q0x18⟩) (by assumption) ?rq1q0x18
          case hq1q0x18 => (intro w hSw; (try dsimp only at hSw); obtain ⟨⟨c0, c1, c2, c3⟩, z0, z1, z2⟩ := hSw; go_simp; try with_reducible rfl)
          (try simp only [Act.put, List.getElem_toArray, List.getElem_cons_zero, List.setIfInBounds_toArray, List.set_cons_zero, List.set_cons_succ])
          refine wpAnyH_take (i := 1) (v := ?vq1q1x21) rfl (by kernel_rfl) (by kernel_rfl) (by kernel_rfl) (fun _ _ _ h => h) (Or.inl ⟨by kernel_rfl, ?hq1q1x21⟩) (by assumption) ?rq1q1x21
          case hq1q1x21 => (intro w hSw; (try dsimp only at hSw); obtain ⟨⟨c0, c1, c2, c3⟩, z0, z1, z2⟩ := hSw; go_simp; try with_reducible rfl)
          (try simp only [Act.put, List.getElem_toArray, List.getElem_cons_zero, List.getElem_cons_succ, List.setIfInBounds_toArray, List.set_cons_zero, List.set_cons_succ])
          refine wpAnyH_take (i := 2) (v := ?vq1q2x24) rfl (by kernel_rfl) (by kernel_rfl) (by kernel_rfl) (fun _ _ _ h => h) (Or.inl ⟨by kernel_rfl, ?hq1q2x24⟩) (by assumption) ?rq1q2x24
          case hq1q2x24 => (intro w hSw; (try dsimp only at hSw); obtain ⟨⟨c0, c1, c2, c3⟩, z0, z1, z2⟩ := hSw; go_simp; try with_reducible rfl)
          (try simp only [Act.put, List.getElem_toArray, List.getElem_cons_zero, List.getElem_cons_succ, List.setIfInBounds_toArray, List.set_cons_zero, List.set_cons_succ])
          refine wpAnyH_take (i := 3) (v := ?vq1q3x27) rfl (by kernel_rfl) (by kernel_rfl) (by kernel_rfl) (fun _ _ _ h => h) (Or.inl ⟨by kernel_rfl, ?hq1q3x27⟩) (by assumption) ?rq1q3x27
          case hq1q3x27 => (intro w hSw; (try dsimp only at hSw); obtain ⟨⟨c0, c1, c2, c3⟩, z0, z1, z2⟩ := hSw; go_simp; try with_reducible rfl)
          (try simp only [Act.put, List.getElem_toArray, List.getElem_cons_zero, List.getElem_cons_succ, List.setIfInBounds_toArray, List.set_cons_zero, List.set_cons_succ])
          refine wpAnyH_take (i := 5) (v := ?vq1q5x30) rfl (by kernel_rfl) (by kernel_rfl) (by kernel_rfl) (fun _ _ _ h => h) (Or.inl ⟨by kernel_rfl, ?hq1q5x30⟩) (by assumption) ?rq1q5x30
          case hq1q5x30 => (intro w hSw; (try dsimp only at hSw); obtain ⟨⟨c0, c1, c2, c3⟩, z0, z1, z2⟩ := hSw; go_simp; try with_reducible rfl)
          (try simp only [Act.put, List.getElem_toArray, List.getElem_cons_zero, List.getElem_cons_succ, List.setIfInBounds_toArray, List.set_cons_zero, List.set_cons_succ])
          refine wpAnyH_take (i := 6) (v := ?vq1q6x33) rfl (by kernel_rfl) (by kernel_rfl) (by kernel_rfl) (fun _ _ _ h => h) (Or.inl ⟨by kernel_rfl, ?hq1q6x33⟩) (by assumption) ?rq1q6x33
          case hq1q6x33 => (intro w hSw; (try dsimp only at hSw); obtain ⟨⟨c0, c1, c2, c3⟩, z0, z1, z2⟩ := hSw; go_simp; try with_reducible rfl)
          (try simp only [Act.put, List.getElem_toArray, List.getElem_cons_zero, List.getElem_cons_succ, List.setIfInBounds_toArray, List.set_cons_zero, List.set_cons_succ])
          refine wpAnyH_ready (rs := [4]) (by kernel_rfl) (by simp) ?_
          refine AllReadyH.cons rfl (fun K hK => ?_) AllReadyH.nil
          go_simp
          refine hK.out _ _ ?_ (fun hHeld => ?_)
          · (try dsimp only); exact hHeld
          clear hK K
          refine wpAnyH_take (i := 7) (v := ?vq1q7x42) rfl (by kernel_rfl) (by kernel_rfl) (by kernel_rfl) (fun _ _ _ h => h) (Or.inl ⟨by kernel_rfl, ?hq1q7x42⟩) (by assumption) ?rq1q7x42
          case hq1q7x42 => (intro w hSw; (try dsimp only at hSw); obtain ⟨⟨c0, c1, c2, c3⟩, z0, z1, z2⟩ := hSw; go_simp; try with_reducible rfl)
          (try simp only [Act.put, List.getElem_toArray, List.getElem_cons_zero, List.getElem_cons_succ, List.setIfInBounds_toArray, List.set_cons_zero, List.set_cons_succ])
          refine wpAnyH_take (i := 8) (v := ?vq1q8x45) rfl (by kernel_rfl) (by kernel_rfl) (by kernel_rfl) (fun _ _ _ h => h) (Or.inl ⟨by kernel_rfl, ?hq1q8x45⟩) (by assumption) ?rq1q8x45
          case hq1q8x45 => (intro w hSw; (try dsimp only at hSw); obtain ⟨⟨c0, c1, c2, c3⟩, z0, z1, z2⟩ := hSw; go_simp; try with_reducible rfl)
          (try simp only [Act.put, List.getElem_toArray, List.getElem_cons_zero, List.getElem_cons_succ, List.setIfInBounds_toArray, List.set_cons_zero, List.set_cons_succ])
          refine wpAnyH_ready (rs := [9]) (by kernel_rfl) (by simp) ?_
          refine AllReadyH.cons rfl (fun K hK => ?_) AllReadyH.nil
          go_simp
          refine hK.out _ _ ?_ (fun hHeld => ?_)
          · (try dsimp only); exact ⟨E5.out.2.c4, E5.out.1.x.c3⟩
          clear hK K
          refine wpAnyH_done (by kernel_rfl) ?_ _
          clear E AR HB d0 d1 ixd e5
          have E := hidb E5.out.1
          have AR := hidb E5.out.2
          have HB := HBn
          clear E5 HBn
          generalize V1.setCell ⟨XB + 1 + 1 + y, x, none⟩ (.int .i64 (F1 y x + (-gw))) = W2 at *
          go_upto_region 13 with fail
          refine wp_region_held_drew (S := (fun w' => (w'.cell? ⟨NB, 0, none⟩ = some (.int .i64 (y : Int)) ∧ w'.cell? ⟨NB, 1, none⟩ = some (.int .i64 (x : Int)) ∧ w'.cell? ⟨NB, 2, none⟩ = some (.int .i64 u) ∧ w'.cell? ⟨NB, 3, none⟩ = some (.int .i64 gw)) ∧ (w'.cell? ⟨XB, 0, none⟩ = some (.int .i64 (k : Int)) ∧ w'.cell? ⟨XB, 1, none⟩ = some (.int .i64 B) ∧ w'.cell? ⟨XB, 2, none⟩ = some (.slice ad n cap)))) (by kernel_rfl) ?_ (fun hHeld => ?_)
          · (try dsimp only); exact ⟨AR.out.drew.c4, E.out.drew.x.c3⟩
          replace E := hidb E.out.drew
          replace AR := hidb AR.out.drew
          generalize W2.drew = V2 at *
          obtain ⟨d0, d1⟩ := E.out.cell (i := y) (j := k) HX.out.2 (Nat.le_refl _)
          have ixd := indexI (XB + 1 + 1 + y) (k + 1) (k + 1) k (by have := HX.out; omega)
          have hbd := HB.out y k
          obtain ⟨F3, hF⟩ : ∃ G : Nat → Nat → Int, G = fun a b => F2 a b + pt2 y k (-(gw * u)) a b := ⟨_, rfl⟩
          have HF3 : Hid (∀ a b, F3 a b = F2 a b + pt2 y k (-(gw * u)) a b) := fun a b => by rw [hF]
          have HBn : Hid (∀ a b, -380633088000 ≤ F3 a b ∧ F3 a b ≤ 380633088000) := fun a b => by
            have h1 := HB.out a b
            have h2 := pt2_bd y k (d := -(gw * u)) (D := 1048576000) (by have := HWu.out; have := HWb.out; omega) (by omega) a b
            rw [HF3.out a b]
            omega
          have e6 : IntKind.i64.wrap (gw * u) = gw * u := wr_in (by have := HWu.out; omega) (by have := HWu.out; omega)
          have e5 : IntKind.i64.wrap (F2 y k - gw * u) = F2 y k + (-(gw * u)) := by rw [show F2 y k - gw * u = F2 y k + (-(gw * u)) by omega]; exact wr_in (by have := HWu.out; have := HWb.out; omega) (by have := HWu.out; have := HWb.out; omega)
          have E5 : Hid (EQ w (V2.setCell ⟨XB + 1 + 1 + y, k, none⟩ (.int .i64 (F2 y k + (-(gw * u))))) XB (XB + 1) k k [.int .i64 (k : Int), .int .i64 B, .slice ad n cap] F3 ∧ At (V2.setCell ⟨XB + 1 + 1 + y, k, none⟩ (.int .i64 (F2 y k + (-(gw * u))))) NB [.int .i64 (y : Int), .int .i64 (x : Int), .int .i64 u, .int .i64 gw]) := ⟨E.out.put HX.out.2 (Nat.le_refl _) _ (by rw [HF3.out]; unfold pt2; rw [if_pos ⟨rfl, rfl⟩]) (fun a b q => by rw [HF3.out]; unfold pt2; rw [if_neg q]; omega), AR.out.skip (by have := hNy; omega) _ _⟩
          clear hF hbd
          refine wpAnyH_take (i := 0) (v := ?vq2q0x19) rfl (by kernel_rfl) (by kernel_rfl) (by kernel_rfl) (fun _ _ _ h => h) (Or.inl ⟨by kernel_rfl, ?hq2q0x19⟩) (by assumption) ?rq2q0x19
          case hq2q0x19 => (intro w hSw; (try dsimp only at hSw); obtain ⟨⟨c0, c1, c2, c3⟩, z0, z1, z2⟩ := hSw; go_simp; try with_reducible rfl)
          (try simp only [Act.put, List.getElem_toArray, List.getElem_cons_zero, List.setIfInBounds_toArray, List.set_cons_zero, List.set_cons_succ])
          refine wpAnyH_take (i := 1) (v := ?vq2q1x22) rfl (by kernel_rfl) (by kernel_rfl) (by kernel_rfl) (fun _ _ _ h => h) (Or.inl ⟨by kernel_rfl, ?hq2q1x22⟩) (by assumption) ?rq2q1x22
          case hq2q1x22 => (intro w hSw; (try dsimp only at hSw); obtain ⟨⟨c0, c1, c2, c3⟩, z0, z1, z2⟩ := hSw; go_simp; try with_reducible rfl)
          (try simp only [Act.put, List.getElem_toArray, List.getElem_cons_zero, List.getElem_cons_succ, List.setIfInBounds_toArray, List.set_cons_zero, List.set_cons_succ])
          refine wpAnyH_take (i := 2) (v := ?vq2q2x25) rfl (by kernel_rfl) (by kernel_rfl) (by kernel_rfl) (fun _ _ _ h => h) (Or.inl ⟨by kernel_rfl, ?hq2q2x25⟩) (by assumption) ?rq2q2x25
          case hq2q2x25 => (intro w hSw; (try dsimp only at hSw); obtain ⟨⟨c0, c1, c2, c3⟩, z0, z1, z2⟩ := hSw; go_simp; try with_reducible rfl)
          (try simp only [Act.put, List.getElem_toArray, List.getElem_cons_zero, List.getElem_cons_succ, List.setIfInBounds_toArray, List.set_cons_zero, List.set_cons_succ])
          refine wpAnyH_take (i := 3) (v := ?vq2q3x28) rfl (by kernel_rfl) (by kernel_rfl) (by kernel_rfl) (fun _ _ _ h => h) (Or.inl ⟨by kernel_rfl, ?hq2q3x28⟩) (by assumption) ?rq2q3x28
          case hq2q3x28 => (intro w hSw; (try dsimp only at hSw); obtain ⟨⟨c0, c1, c2, c3⟩, z0, z1, z2⟩ := hSw; go_simp; try with_reducible rfl)
          (try simp only [Act.put, List.getElem_toArray, List.getElem_cons_zero, List.getElem_cons_succ, List.setIfInBounds_toArray, List.set_cons_zero, List.set_cons_succ])
          refine wpAnyH_take (i := 5) (v := ?vq2q5x31) rfl (by kernel_rfl) (by kernel_rfl) (by kernel_rfl) (fun _ _ _ h => h) (Or.inl ⟨by kernel_rfl, ?hq2q5x31⟩) (by assumption) ?rq2q5x31
          case hq2q5x31 => (intro w hSw; (try dsimp only at hSw); obtain ⟨⟨c0, c1, c2, c3⟩, z0, z1, z2⟩ := hSw; go_simp; try with_reducible rfl)
          (try simp only [Act.put, List.getElem_toArray, List.getElem_cons_zero, List.getElem_cons_succ, List.setIfInBounds_toArray, List.set_cons_zero, List.set_cons_succ])
          refine wpAnyH_take (i := 6) (v := ?vq2q6x34) rfl (by kernel_rfl) (by kernel_rfl) (by kernel_rfl) (fun _ _ _ h => h) (Or.inl ⟨by kernel_rfl, ?hq2q6x34⟩) (by assumption) ?rq2q6x34
          case hq2q6x34 => (intro w hSw; (try dsimp only at hSw); obtain ⟨⟨c0, c1, c2, c3⟩, z0, z1, z2⟩ := hSw; go_simp; try with_reducible rfl)
          (try simp only [Act.put, List.getElem_toArray, List.getElem_cons_zero, List.getElem_cons_succ, List.setIfInBounds_toArray, List.set_cons_zero, List.set_cons_succ])
          refine wpAnyH_take (i := 7) (v := ?vq2q7x37) rfl (by kernel_rfl) (by kernel_rfl) (by kernel_rfl) (fun _ _ _ h => h) (Or.inl ⟨by kernel_rfl, ?hq2q7x37⟩) (by assumption) ?rq2q7x37
          case hq2q7x37 => (intro w hSw; (try dsimp only at hSw); obtain ⟨⟨c0, c1, c2, c3⟩, z0, z1, z2⟩ := hSw; go_simp; try with_reducible rfl)
          (try simp only [Act.put, List.getElem_toArray, List.getElem_cons_zero, List.getElem_cons_succ, List.setIfInBounds_toArray, List.set_cons_zero, List.set_cons_succ])
          refine wpAnyH_take (i := 8) (v := ?vq2q8x40) rfl (by kernel_rfl) (by kernel_rfl) (by kernel_rfl) (fun _ _ _ h => h) (Or.inl ⟨by kernel_rfl, ?hq2q8x40⟩) (by assumption) ?rq2q8x40
          case hq2q8x40 => (intro w hSw; (try dsimp only at hSw); obtain ⟨⟨c0, c1, c2, c3⟩, z0, z1, z2⟩ := hSw; go_simp; try with_reducible rfl)
          (try simp only [Act.put, List.getElem_toArray, List.getElem_cons_zero, List.getElem_cons_succ, List.setIfInBounds_toArray, List.set_cons_zero, List.set_cons_succ])
          refine wpAnyH_take (i := 9) (v := ?vq2q9x43) rfl (by kernel_rfl) (by kernel_rfl) (by kernel_rfl) (fun _ _ _ h => h) (Or.inl ⟨by kernel_rfl, ?hq2q9x43⟩) (by assumption) ?rq2q9x43
          case hq2q9x43 => (intro w hSw; (try dsimp only at hSw); obtain ⟨⟨c0, c1, c2, c3⟩, z0, z1, z2⟩ := hSw; go_simp; try with_reducible rfl)
          (try simp only [Act.put, List.getElem_toArray, List.getElem_cons_zero, List.getElem_cons_succ, List.setIfInBounds_toArray, List.set_cons_zero, List.set_cons_succ])
          refine wpAnyH_ready (rs := [4]) (by kernel_rfl) (by simp) ?_
          refine AllReadyH.cons rfl (fun K hK => ?_) AllReadyH.nil
          go_simp
          refine hK.out _ _ ?_ (fun hHeld => ?_)
          · (try dsimp only); exact hHeld
          clear hK K
          refine wpAnyH_take (i := 10) (v := ?vq2q10x52) rfl (by kernel_rfl) (by kernel_rfl) (by kernel_rfl) (fun _ _ _ h => h) (Or.inl ⟨by kernel_rfl, ?hq2q10x52⟩) (by assumption) ?rq2q10x52
          case hq2q10x52 => (intro w hSw; (try dsimp only at hSw); obtain ⟨⟨c0, c1, c2, c3⟩, z0, z1, z2⟩ := hSw; go_simp; try with_reducible rfl)
          (try simp only [Act.put, List.getElem_toArray, List.getElem_cons_zero, List.getElem_cons_succ, List.setIfInBounds_toArray, List.set_cons_zero, List.set_cons_succ])
          refine wpAnyH_take (i := 11) (v := ?vq2q11x55) rfl (by kernel_rfl) (by kernel_rfl) (by kernel_rfl) (fun _ _ _ h => h) (Or.inl ⟨by kernel_rfl, ?hq2q11x55⟩) (by assumption) ?rq2q11x55
          case hq2q11x55 => (intro w hSw; (try dsimp only at hSw); obtain ⟨⟨c0, c1, c2, c3⟩, z0, z1, z2⟩ := hSw; go_simp; try with_reducible rfl)
          (try simp only [Act.put, List.getElem_toArray, List.getElem_cons_zero, List.getElem_cons_succ, List.setIfInBounds_toArray, List.set_cons_zero, List.set_cons_succ])
          refine wpAnyH_ready (rs := [12]) (by kernel_rfl) (by simp) ?_
          refine AllReadyH.cons rfl (fun K hK => ?_) AllReadyH.nil
          go_simp
          refine hK.out _ _ ?_ (fun hHeld => ?_)
          · (try dsimp only); exact ⟨E5.out.2.c4, E5.out.1.x.c3⟩
          clear hK K
          refine wpAnyH_done (by kernel_rfl) ?_ _
          clear E AR HB d0 d1 ixd e5 e6
          have E := hidb E5.out.1
          have AR := hidb E5.out.2
          have HB := HBn
          clear E5 HBn
          generalize V2.setCell ⟨XB + 1 + 1 + y, k, none⟩ (.int .i64 (F2 y k + (-(gw * u)))) = W3 at *
          go_upto_region 14 with fail
          refine wp_region_held_drew (S := (fun w' => (w'.cell? ⟨NB, 0, none⟩ = some (.int .i64 (y : Int)) ∧ w'.cell? ⟨NB, 1, none⟩ = some (.int .i64 (x : Int)) ∧ w'.cell? ⟨NB, 2, none⟩ = some (.int .i64 u) ∧ w'.cell? ⟨NB, 3, none⟩ = some (.int .i64 gw)) ∧ (w'.cell? ⟨XB, 0, none⟩ = some (.int .i64 (k : Int)) ∧ w'.cell? ⟨XB, 1, none⟩ = some (.int .i64 B) ∧ w'.cell? ⟨XB, 2, none⟩ = some (.slice ad n cap)))) (by kernel_rfl) ?_ (fun hHeld => ?_)
          · (try dsimp only); exact ⟨AR.out.drew.c4, E.out.drew.x.c3⟩
          replace E := hidb E.out.drew
          replace AR := hidb AR.out.drew
          generalize W3.drew = V3 at *
          obtain ⟨d0, d1⟩ := E.out.cell (i := x) (j := x) HX.out.1 (Nat.le_of_lt HX.out.1)
          have ixd := indexI (XB + 1 + 1 + x) (k + 1) (k + 1) x (by have := HX.out; omega)
          have hbd := HB.out x x
          obtain ⟨F4, hF⟩ : ∃ G : Nat → Nat → Int, G = fun a b => F3 a b + pt2 x x (gw) a b := ⟨_, rfl⟩
          have HF4 : Hid (∀ a b, F4 a b = F3 a b + pt2 x x (gw) a b) := fun a b => by rw [hF]
          have HBn : Hid (∀ a b, -381681664000 ≤ F4 a b ∧ F4 a b ≤ 381681664000) := fun a b => by
            have h1 := HB.out a b
            have h2 := pt2_bd x x (d := gw) (D := 1048576000) (by have := HWu.out; have := HWb.out; omega) (by omega) a b
            rw [HF4.out a b]
            omega
          have e5 : IntKind.i64.wrap (F3 x x + gw) = F3 x x + gw := by rw [show F3 x x + gw = F3 x x + gw by omega]; exact wr_in (by have := HWu.out; have := HWb.out; omega) (by have := HWu.out; have := HWb.out; omega)
          have E5 : Hid (EQ w (V3.setCell ⟨XB + 1 + 1 + x, x, none⟩ (.int .i64 (F3 x x + gw))) XB (XB + 1) k k [.int .i64 (k : Int), .int .i64 B, .slice ad n cap] F4 ∧ At (V3.setCell ⟨XB + 1 + 1 + x, x, none⟩ (.int .i64 (F3 x x + gw))) NB [.int .i64 (y : Int), .int .i64 (x : Int), .int .i64 u, .int .i64 gw]) := ⟨E.out.put HX.out.1 (Nat.le_of_lt HX.out.1) _ (by rw [HF4.out]; unfold pt2; rw [if_pos ⟨rfl, rfl⟩]) (fun a b q => by rw [HF4.out]; unfold pt2; rw [if_neg q]; omega), AR.out.skip (by have := hNx; omega) _ _⟩
          clear hF hbd
          refine wpAnyH_take (i := 0) (v := ?vq3q0x18) rfl (by kernel_rfl) (by kernel_rfl) (by kernel_rfl) (fun _ _ _ h => h) (Or.inl ⟨by kernel_rfl, ?hq3q0x18⟩) (by assumption) ?rq3q0x18
          case hq3q0x18 => (intro w hSw; (try dsimp only at hSw); obtain ⟨⟨c0, c1, c2, c3⟩, z0, z1, z2⟩ := hSw; go_simp; try with_reducible rfl)
          (try simp only [Act.put, List.getElem_toArray, List.getElem_cons_zero, List.setIfInBounds_toArray, List.set_cons_zero, List.set_cons_succ])
          refine wpAnyH_take (i := 1) (v := ?vq3q1x21) rfl (by kernel_rfl) (by kernel_rfl) (by kernel_rfl) (fun _ _ _ h => h) (Or.inl ⟨by kernel_rfl, ?hq3q1x21⟩) (by assumption) ?rq3q1x21
          case hq3q1x21 => (intro w hSw; (try dsimp only at hSw); obtain ⟨⟨c0, c1, c2, c3⟩, z0, z1, z2⟩ := hSw; go_simp; try with_reducible rfl)
          (try simp only [Act.put, List.getElem_toArray, List.getElem_cons_zero, List.getElem_cons_succ, List.setIfInBounds_toArray, List.set_cons_zero, List.set_cons_succ])
          refine wpAnyH_take (i := 2) (v := ?vq3q2x24) rfl (by kernel_rfl) (by kernel_rfl) (by kernel_rfl) (fun _ _ _ h => h) (Or.inl ⟨by kernel_rfl, ?hq3q2x24⟩) (by assumption) ?rq3q2x24
          case hq3q2x24 => (intro w hSw; (try dsimp only at hSw); obtain ⟨⟨c0, c1, c2, c3⟩, z0, z1, z2⟩ := hSw; go_simp; try with_reducible rfl)
          (try simp only [Act.put, List.getElem_toArray, List.getElem_cons_zero, List.getElem_cons_succ, List.setIfInBounds_toArray, List.set_cons_zero, List.set_cons_succ])
          refine wpAnyH_take (i := 3) (v := ?vq3q3x27) rfl (by kernel_rfl) (by kernel_rfl) (by kernel_rfl) (fun _ _ _ h => h) (Or.inl ⟨by kernel_rfl, ?hq3q3x27⟩) (by assumption) ?rq3q3x27
          case hq3q3x27 => (intro w hSw; (try dsimp only at hSw); obtain ⟨⟨c0, c1, c2, c3⟩, z0, z1, z2⟩ := hSw; go_simp; try with_reducible rfl)
          (try simp only [Act.put, List.getElem_toArray, List.getElem_cons_zero, List.getElem_cons_succ, List.setIfInBounds_toArray, List.set_cons_zero, List.set_cons_succ])
          refine wpAnyH_take (i := 5) (v := ?vq3q5x30) rfl (by kernel_rfl) (by kernel_rfl) (by kernel_rfl) (fun _ _ _ h => h) (Or.inl ⟨by kernel_rfl, ?hq3q5x30⟩) (by assumption) ?rq3q5x30
          case hq3q5x30 => (intro w hSw; (try dsimp only at hSw); obtain ⟨⟨c0, c1, c2, c3⟩, z0, z1, z2⟩ := hSw; go_simp; try with_reducible rfl)
          (try simp only [Act.put, List.getElem_toArray, List.getElem_cons_zero, List.getElem_cons_succ, List.setIfInBounds_toArray, List.set_cons_zero, List.set_cons_succ])
          refine wpAnyH_take (i := 6) (v := ?vq3q6x33) rfl (by kernel_rfl) (by kernel_rfl) (by kernel_rfl) (fun _ _ _ h => h) (Or.inl ⟨by kernel_rfl, ?hq3q6x33⟩) (by assumption) ?rq3q6x33
          case hq3q6x33 => (intro w hSw; (try dsimp only at hSw); obtain ⟨⟨c0, c1, c2, c3⟩, z0, z1, z2⟩ := hSw; go_simp; try with_reducible rfl)
          (try simp only [Act.put, List.getElem_toArray, List.getElem_cons_zero, List.getElem_cons_succ, List.setIfInBounds_toArray, List.set_cons_zero, List.set_cons_succ])
          refine wpAnyH_ready (rs := [4]) (by kernel_rfl) (by simp) ?_
          refine AllReadyH.cons rfl (fun K hK => ?_) AllReadyH.nil
          go_simp
          refine hK.out _ _ ?_ (fun hHeld => ?_)
          · (try dsimp only); exact hHeld
          clear hK K
          refine wpAnyH_take (i := 7) (v := ?vq3q7x42) rfl (by kernel_rfl) (by kernel_rfl) (by kernel_rfl) (fun _ _ _ h => h) (Or.inl ⟨by kernel_rfl, ?hq3q7x42⟩) (by assumption) ?rq3q7x42
          case hq3q7x42 => (intro w hSw; (try dsimp only at hSw); obtain ⟨⟨c0, c1, c2, c3⟩, z0, z1, z2⟩ := hSw; go_simp; try with_reducible rfl)
          (try simp only [Act.put, List.getElem_toArray, List.getElem_cons_zero, List.getElem_cons_succ, List.setIfInBounds_toArray, List.set_cons_zero, List.set_cons_succ])
          refine wpAnyH_take (i := 8) (v := ?vq3q8x45) rfl (by kernel_rfl) (by kernel_rfl) (by kernel_rfl) (fun _ _ _ h => h) (Or.inl ⟨by kernel_rfl, ?hq3q8x45⟩) (by assumption) ?rq3q8x45
          case hq3q8x45 => (intro w hSw; (try dsimp only at hSw); obtain ⟨⟨c0, c1, c2, c3⟩, z0, z1, z2⟩ := hSw; go_simp; try with_reducible rfl)
          (try simp only [Act.put, List.getElem_toArray, List.getElem_cons_zero, List.getElem_cons_succ, List.setIfInBounds_toArray, List.set_cons_zero, List.set_cons_succ])
          refine wpAnyH_ready (rs := [9]) (by kernel_rfl) (by simp) ?_
          refine AllReadyH.cons rfl (fun K hK => ?_) AllReadyH.nil
          go_simp
          refine hK.out _ _ ?_ (fun hHeld => ?_)
          · (try dsimp only); exact ⟨E5.out.2.c4, E5.out.1.x.c3⟩
          clear hK K
          refine wpAnyH_done (by kernel_rfl) ?_ _
          clear E AR HB d0 d1 ixd e5
          have E := hidb E5.out.1
          have AR := hidb E5.out.2
          have HB := HBn
          clear E5 HBn
          generalize V3.setCell ⟨XB + 1 + 1 + x, x, none⟩ (.int .i64 (F3 x x + gw)) = W4 at *
          go_upto_region 15 with fail
          refine wp_region_held_drew (S := (fun w' => (w'.cell? ⟨NB, 0, none⟩ = some (.int .i64 (y : Int)) ∧ w'.cell? ⟨NB, 1, none⟩ = some (.int .i64 (x : Int)) ∧ w'.cell? ⟨NB, 2, none⟩ = some (.int .i64 u) ∧ w'.cell? ⟨NB, 3, none⟩ = some (.int .i64 gw)) ∧ (w'.cell? ⟨XB, 0, none⟩ = some (.int .i64 (k : Int)) ∧ w'.cell? ⟨XB, 1, none⟩ = some (.int .i64 B) ∧ w'.cell? ⟨XB, 2, none⟩ = some (.slice ad n cap)))) (by kernel_rfl) ?_ (fun hHeld => ?_)
          · (try dsimp only); exact ⟨AR.out.drew.c4, E.out.drew.x.c3⟩
          replace E := hidb E.out.drew
          replace AR := hidb AR.out.drew
          generalize W4.drew = V4 at *
          obtain ⟨d0, d1⟩ := E.out.cell (i := x) (j := y) HX.out.1 (Nat.le_of_lt HX.out.2)
          have ixd := indexI (XB + 1 + 1 + x) (k + 1) (k + 1) y (by have := HX.out; omega)
          have hbd := HB.out x y
          obtain ⟨F5, hF⟩ : ∃ G : Nat → Nat → Int, G = fun a b => F4 a b + pt2 x y (-gw) a b := ⟨_, rfl⟩
          have HF5 : Hid (∀ a b, F5 a b = F4 a b + pt2 x y (-gw) a b) := fun a b => by rw [hF]
          have HBn : Hid (∀ a b, -382730240000 ≤ F5 a b ∧ F5 a b ≤ 382730240000) := fun a b => by
            have h1 := HB.out a b
            have h2 := pt2_bd x y (d := -gw) (D := 1048576000) (by have := HWu.out; have := HWb.out; omega) (by omega) a b
            rw [HF5.out a b]
            omega
          have e5 : IntKind.i64.wrap (F4 x y - gw) = F4 x y + (-gw) := by rw [show F4 x y - gw = F4 x y + (-gw) by omega]; exact wr_in (by have := HWu.out; have := HWb.out; omega) (by have := HWu.out; have := HWb.out; omega)
          have E5 : Hid (EQ w (V4.setCell ⟨XB + 1 + 1 + x, y, none⟩ (.int .i64 (F4 x y + (-gw)))) XB (XB + 1) k k [.int .i64 (k : Int), .int .i64 B, .slice ad n cap] F5 ∧ At (V4.setCell ⟨XB + 1 + 1 + x, y, none⟩ (.int .i64 (F4 x y + (-gw)))) NB [.int .i64 (y : Int), .int .i64 (x : Int), .int .i64 u, .int .i64 gw]) := ⟨E.out.put HX.out.1 (Nat.le_of_lt HX.out.2) _ (by rw [HF5.out]; unfold pt2; rw [if_pos ⟨rfl, rfl⟩]) (fun a b q => by rw [HF5.out]; unfold pt2; rw [if_neg q]; omega), AR.out.skip (by have := hNx; omega) _ _⟩
          clear hF hbd
          refine wpAnyH_take (i := 0) (v := ?vq4q0x18) rfl (by kernel_rfl) (by kernel_rfl) (by kernel_rfl) (fun _ _ _ h => h) (Or.inl ⟨by kernel_rfl, ?hq4q0x18⟩) (by assumption) ?rq4q0x18
          case hq4q0x18 => (intro w hSw; (try dsimp only at hSw); obtain ⟨⟨c0, c1, c2, c3⟩, z0, z1, z2⟩ := hSw; go_simp; try with_reducible rfl)
          (try simp only [Act.put, List.getElem_toArray, List.getElem_cons_zero, List.setIfInBounds_toArray, List.set_cons_zero, List.set_cons_succ])
          refine wpAnyH_take (i := 1) (v := ?vq4q1x21) rfl (by kernel_rfl) (by kernel_rfl) (by kernel_rfl) (fun _ _ _ h => h) (Or.inl ⟨by kernel_rfl, ?hq4q1x21⟩) (by assumption) ?rq4q1x21
          case hq4q1x21 => (intro w hSw; (try dsimp only at hSw); obtain ⟨⟨c0, c1, c2, c3⟩, z0, z1, z2⟩ := hSw; go_simp; try with_reducible rfl)
          (try simp only [Act.put, List.getElem_toArray, List.getElem_cons_zero, List.getElem_cons_succ, List.setIfInBounds_toArray, List.set_cons_zero, List.set_cons_succ])
          refine wpAnyH_take (i := 2) (v := ?vq4q2x24) rfl (by kernel_rfl) (by kernel_rfl) (by kernel_rfl) (fun _ _ _ h => h) (Or.inl ⟨by kernel_rfl, ?hq4q2x24⟩) (by assumption) ?rq4q2x24
          case hq4q2x24 => (intro w hSw; (try dsimp only at hSw); obtain ⟨⟨c0, c1, c2, c3⟩, z0, z1, z2⟩ := hSw; go_simp; try with_reducible rfl)
          (try simp only [Act.put, List.getElem_toArray, List.getElem_cons_zero, List.getElem_cons_succ, List.setIfInBounds_toArray, List.set_cons_zero, List.set_cons_succ])
          refine wpAnyH_take (i := 3) (v := ?vq4q3x27) rfl (by kernel_rfl) (by kernel_rfl) (by kernel_rfl) (fun _ _ _ h => h) (Or.inl ⟨by kernel_rfl, ?hq4q3x27⟩) (by assumption) ?rq4q3x27
          case hq4q3x27 => (intro w hSw; (try dsimp only at hSw); obtain ⟨⟨c0, c1, c2, c3⟩, z0, z1, z2⟩ := hSw; go_simp; try with_reducible rfl)
          (try simp only [Act.put, List.getElem_toArray, List.getElem_cons_zero, List.getElem_cons_succ, List.setIfInBounds_toArray, List.set_cons_zero, List.set_cons_succ])
          refine wpAnyH_take (i := 5) (v := ?vq4q5x30) rfl (by kernel_rfl) (by kernel_rfl) (by kernel_rfl) (fun _ _ _ h => h) (Or.inl ⟨by kernel_rfl, ?hq4q5x30⟩) (by assumption) ?rq4q5x30
          case hq4q5x30 => (intro w hSw; (try dsimp only at hSw); obtain ⟨⟨c0, c1, c2, c3⟩, z0, z1, z2⟩ := hSw; go_simp; try with_reducible rfl)
          (try simp only [Act.put, List.getElem_toArray, List.getElem_cons_zero, List.getElem_cons_succ, List.setIfInBounds_toArray, List.set_cons_zero, List.set_cons_succ])
          refine wpAnyH_take (i := 6) (v := ?vq4q6x33) rfl (by kernel_rfl) (by kernel_rfl) (by kernel_rfl) (fun _ _ _ h => h) (Or.inl ⟨by kernel_rfl, ?hq4q6x33⟩) (by assumption) ?rq4q6x33
          case hq4q6x33 => (intro w hSw; (try dsimp only at hSw); obtain ⟨⟨c0, c1, c2, c3⟩, z0, z1, z2⟩ := hSw; go_simp; try with_reducible rfl)
          (try simp only [Act.put, List.getElem_toArray, List.getElem_cons_zero, List.getElem_cons_succ, List.setIfInBounds_toArray, List.set_cons_zero, List.set_cons_succ])
          refine wpAnyH_ready (rs := [4]) (by kernel_rfl) (by simp) ?_
          refine AllReadyH.cons rfl (fun K hK => ?_) AllReadyH.nil
          go_simp
          refine hK.out _ _ ?_ (fun hHeld => ?_)
          · (try dsimp only); exact hHeld
          clear hK K
          refine wpAnyH_take (i := 7) (v := ?vq4q7x42) rfl (by kernel_rfl) (by kernel_rfl) (by kernel_rfl) (fun _ _ _ h => h) (Or.inl ⟨by kernel_rfl, ?hq4q7x42⟩) (by assumption) ?rq4q7x42
          case hq4q7x42 => (intro w hSw; (try dsimp only at hSw); obtain ⟨⟨c0, c1, c2, c3⟩, z0, z1, z2⟩ := hSw; go_simp; try with_reducible rfl)
          (try simp only [Act.put, List.getElem_toArray, List.getElem_cons_zero, List.getElem_cons_succ, List.setIfInBounds_toArray, List.set_cons_zero, List.set_cons_succ])
          refine wpAnyH_take (i := 8) (v := ?vq4q8x45) rfl (by kernel_rfl) (by kernel_rfl) (by kernel_rfl) (fun _ _ _ h => h) (Or.inl ⟨by kernel_rfl, ?hq4q8x45⟩) (by assumption) ?rq4q8x45
          case hq4q8x45 => (intro w hSw; (try dsimp only at hSw); obtain ⟨⟨c0, c1, c2, c3⟩, z0, z1, z2⟩ := hSw; go_simp; try with_reducible rfl)
          (try simp only [Act.put, List.getElem_toArray, List.getElem_cons_zero, List.getElem_cons_succ, List.setIfInBounds_toArray, List.set_cons_zero, List.set_cons_succ])
          refine wpAnyH_ready (rs := [9]) (by kernel_rfl) (by simp) ?_
          refine AllReadyH.cons rfl (fun K hK => ?_) AllReadyH.nil
          go_simp
          refine hK.out _ _ ?_ (fun hHeld => ?_)
          · (try dsimp only); exact ⟨E5.out.2.c4, E5.out.1.x.c3⟩
          clear hK K
          refine wpAnyH_done (by kernel_rfl) ?_ _
          clear E AR HB d0 d1 ixd e5
          have E := hidb E5.out.1
          have AR := hidb E5.out.2
          have HB := HBn
          clear E5 HBn
          generalize V4.setCell ⟨XB + 1 + 1 + x, y, none⟩ (.int .i64 (F4 x y + (-gw))) = W5 at *
          go_upto_region 16 with fail
          refine wp_region_held_drew (S := (fun w' => (w'.cell? ⟨NB, 0, none⟩ = some (.int .i64 (y : Int)) ∧ w'.cell? ⟨NB, 1, none⟩ = some (.int .i64 (x : Int)) ∧ w'.cell? ⟨NB, 2, none⟩ = some (.int .i64 u) ∧ w'.cell? ⟨NB, 3, none⟩ = some (.int .i64 gw)) ∧ (w'.cell? ⟨XB, 0, none⟩ = some (.int .i64 (k : Int)) ∧ w'.cell? ⟨XB, 1, none⟩ = some (.int .i64 B) ∧ w'.cell? ⟨XB, 2, none⟩ = some (.slice ad n cap)))) (by kernel_rfl) ?_ (fun hHeld => ?_)
          · (try dsimp only); exact ⟨AR.out.drew.c4, E.out.drew.x.c3⟩
          replace E := hidb E.out.drew
          replace AR := hidb AR.out.drew
          generalize W5.drew = V5 at *
          obtain ⟨d0, d1⟩ := E.out.cell (i := x) (j := k) HX.out.1 (Nat.le_refl _)
          have ixd := indexI (XB + 1 + 1 + x) (k + 1) (k + 1) k (by have := HX.out; omega)
          have hbd := HB.out x k
          obtain ⟨F6, hF⟩ : ∃ G : Nat → Nat → Int, G = fun a b => F5 a b + pt2 x k (gw * u) a b := ⟨_, rfl⟩
          have HF6 : Hid (∀ a b, F6 a b = F5 a b + pt2 x k (gw * u) a b) := fun a b => by rw [hF]
          have HBn : Hid (∀ a b, -383778816000 ≤ F6 a b ∧ F6 a b ≤ 383778816000) := fun a b => by
            have h1 := HB.out a b
            have h2 := pt2_bd x k (d := gw * u) (D := 1048576000) (by have := HWu.out; have := HWb.out; omega) (by omega) a b
            rw [HF6.out a b]
            omega
          have e6 : IntKind.i64.wrap (gw * u) = gw * u := wr_in (by have := HWu.out; omega) (by have := HWu.out; omega)
          have e5 : IntKind.i64.wrap (F5 x k + gw * u) = F5 x k + gw * u := by rw [show F5 x k + gw * u = F5 x k + gw * u by omega]; exact wr_in (by have := HWu.out; have := HWb.out; omega) (by have := HWu.out; have := HWb.out; omega)
          have E5 : Hid (EQ w (V5.setCell ⟨XB + 1 + 1 + x, k, none⟩ (.int .i64 (F5 x k + gw * u))) XB (XB + 1) k k [.int .i64 (k : Int), .int .i64 B, .slice ad n cap] F6 ∧ At (V5.setCell ⟨XB + 1 + 1 + x, k, none⟩ (.int .i64 (F5 x k + gw * u))) NB [.int .i64 (y : Int), .int .i64 (x : Int), .int .i64 u, .int .i64 gw]) := ⟨E.out.put HX.out.1 (Nat.le_refl _) _ (by rw [HF6.out]; unfold pt2; rw [if_pos ⟨rfl, rfl⟩]) (fun a b q => by rw [HF6.out]; unfold pt2; rw [if_neg q]; omega), AR.out.skip (by have := hNx; omega) _ _⟩
          clear hF hbd
          refine wpAnyH_take (i := 0) (v := ?vq5q0x19) rfl (by kernel_rfl) (by kernel_rfl) (by kernel_rfl) (fun _ _ _ h => h) (Or.inl ⟨by kernel_rfl, ?hq5q0x19⟩) (by assumption) ?rq5q0x19
          case hq5q0x19 => (intro w hSw; (try dsimp only at hSw); obtain ⟨⟨c0, c1, c2, c3⟩, z0, z1, z2⟩ := hSw; go_simp; try with_reducible rfl)
          (try simp only [Act.put, List.getElem_toArray, List.getElem_cons_zero, List.setIfInBounds_toArray, List.set_cons_zero, List.set_cons_succ])
          refine wpAnyH_take (i := 1) (v := ?vq5q1x22) rfl (by kernel_rfl) (by kernel_rfl) (by kernel_rfl) (fun _ _ _ h => h) (Or.inl ⟨by kernel_rfl, ?hq5q1x22⟩) (by assumption) ?rq5q1x22
          case hq5q1x22 => (intro w hSw; (try dsimp only at hSw); obtain ⟨⟨c0, c1, c2, c3⟩, z0, z1, z2⟩ := hSw; go_simp; try with_reducible rfl)
          (try simp only [Act.put, List.getElem_toArray, List.getElem_cons_zero, List.getElem_cons_succ, List.setIfInBounds_toArray, List.set_cons_zero, List.set_cons_succ])
          refine wpAnyH_take (i := 2) (v := ?vq5q2x25) rfl (by kernel_rfl) (by kernel_rfl) (by kernel_rfl) (fun _ _ _ h => h) (Or.inl ⟨by kernel_rfl, ?hq5q2x25⟩) (by assumption) ?rq5q2x25
          case hq5q2x25 => (intro w hSw; (try dsimp only at hSw); obtain ⟨⟨c0, c1, c2, c3⟩, z0, z1, z2⟩ := hSw; go_simp; try with_reducible rfl)
          (try simp only [Act.put, List.getElem_toArray, List.getElem_cons_zero, List.getElem_cons_succ, List.setIfInBounds_toArray, List.set_cons_zero, List.set_cons_succ])
          refine wpAnyH_take (i := 3) (v := ?vq5q3x28) rfl (by kernel_rfl) (by kernel_rfl) (by kernel_rfl) (fun _ _ _ h => h) (Or.inl ⟨by kernel_rfl, ?hq5q3x28⟩) (by assumption) ?rq5q3x28
          case hq5q3x28 => (intro w hSw; (try dsimp only at hSw); obtain ⟨⟨c0, c1, c2, c3⟩, z0, z1, z2⟩ := hSw; go_simp; try with_reducible rfl)
          (try simp only [Act.put, List.getElem_toArray, List.getElem_cons_zero, List.getElem_cons_succ, List.setIfInBounds_toArray, List.set_cons_zero, List.set_cons_succ])
          refine wpAnyH_take (i := 5) (v := ?vq5q5x31) rfl (by kernel_rfl) (by kernel_rfl) (by kernel_rfl) (fun _ _ _ h => h) (Or.inl ⟨by kernel_rfl, ?hq5q5x31⟩) (by assumption) ?rq5q5x31
          case hq5q5x31 => (intro w hSw; (try dsimp only at hSw); obtain ⟨⟨c0, c1, c2, c3⟩, z0, z1, z2⟩ := hSw; go_simp; try with_reducible rfl)
          (try simp only [Act.put, List.getElem_toArray, List.getElem_cons_zero, List.getElem_cons_succ, List.setIfInBounds_toArray, List.set_cons_zero, List.set_cons_succ])
          refine wpAnyH_take (i := 6) (v := ?vq5q6x34) rfl (by kernel_rfl) (by kernel_rfl) (by kernel_rfl) (fun _ _ _ h => h) (Or.inl ⟨by kernel_rfl, ?hq5q6x34⟩) (by assumption) ?rq5q6x34
          case hq5q6x34 => (intro w hSw; (try dsimp only at hSw); obtain ⟨⟨c0, c1, c2, c3⟩, z0, z1, z2⟩ := hSw; go_simp; try with_reducible rfl)
          (try simp only [Act.put, List.getElem_toArray, List.getElem_cons_zero, List.getElem_cons_succ, List.setIfInBounds_toArray, List.set_cons_zero, List.set_cons_succ])
          refine wpAnyH_take (i := 7) (v := ?vq5q7x37) rfl (by kernel_rfl) (by kernel_rfl) (by kernel_rfl) (fun _ _ _ h => h) (Or.inl ⟨by kernel_rfl, ?hq5q7x37⟩) (by assumption) ?rq5q7x37
          case hq5q7x37 => (intro w hSw; (try dsimp only at hSw); obtain ⟨⟨c0, c1, c2, c3⟩, z0, z1, z2⟩ := hSw; go_simp; try with_reducible rfl)
          (try simp only [Act.put, List.getElem_toArray, List.getElem_cons_zero, List.getElem_cons_succ, List.setIfInBounds_toArray, List.set_cons_zero, List.set_cons_succ])
          refine wpAnyH_take (i := 8) (v := ?vq5q8x40) rfl (by kernel_rfl) (by kernel_rfl) (by kernel_rfl) (fun _ _ _ h => h) (Or.inl ⟨by kernel_rfl, ?hq5q8x40⟩) (by assumption) ?rq5q8x40
          case hq5q8x40 => (intro w hSw; (try dsimp only at hSw); obtain ⟨⟨c0, c1, c2, c3⟩, z0, z1, z2⟩ := hSw; go_simp; try with_reducible rfl)
          (try simp only [Act.put, List.getElem_toArray, List.getElem_cons_zero, List.getElem_cons_succ, List.setIfInBounds_toArray, List.set_cons_zero, List.set_cons_succ])
          refine wpAnyH_take (i := 9) (v := ?vq5q9x43) rfl (by kernel_rfl) (by kernel_rfl) (by kernel_rfl) (fun _ _ _ h => h) (Or.inl ⟨by kernel_rfl, ?hq5q9x43⟩) (by assumption) ?rq5q9x43
          case hq5q9x43 => (intro w hSw; (try dsimp only at hSw); obtain ⟨⟨c0, c1, c2, c3⟩, z0, z1, z2⟩ := hSw; go_simp; try with_reducible rfl)
          (try simp only [Act.put, List.getElem_toArray, List.getElem_cons_zero, List.getElem_cons_succ, List.setIfInBounds_toArray, List.set_cons_zero, List.set_cons_succ])
          refine wpAnyH_ready (rs := [4]) (by kernel_rfl) (by simp) ?_
          refine AllReadyH.cons rfl (fun K hK => ?_) AllReadyH.nil
          go_simp
          refine hK.out _ _ ?_ (fun hHeld => ?_)
          · (try dsimp only); exact hHeld
          clear hK K
          refine wpAnyH_take (i := 10) (v := ?vq5q10x52) rfl (by kernel_rfl) (by kernel_rfl) (by kernel_rfl) (fun _ _ _ h => h) (Or.inl ⟨by kernel_rfl, ?hq5q10x52⟩) (by assumption) ?rq5q10x52
          case hq5q10x52 => (intro w hSw; (try dsimp only at hSw); obtain ⟨⟨c0, c1, c2, c3⟩, z0, z1, z2⟩ := hSw; go_simp; try with_reducible rfl)
          (try simp only [Act.put, List.getElem_toArray, List.getElem_cons_zero, List.getElem_cons_succ, List.setIfInBounds_toArray, List.set_cons_zero, List.set_cons_succ])
          refine wpAnyH_take (i := 11) (v := ?vq5q11x55) rfl (by kernel_rfl) (by kernel_rfl) (by kernel_rfl) (fun _ _ _ h => h) (Or.inl ⟨by kernel_rfl, ?hq5q11x55⟩) (by assumption) ?rq5q11x55
          case hq5q11x55 => (intro w hSw; (try dsimp only at hSw); obtain ⟨⟨c0, c1, c2, c3⟩, z0, z1, z2⟩ := hSw; go_simp; try with_reducible rfl)
          (try simp only [Act.put, List.getElem_toArray, List.getElem_cons_zero, List.getElem_cons_succ, List.setIfInBounds_toArray, List.set_cons_zero, List.set_cons_succ])
          refine wpAnyH_ready (rs := [12]) (by kernel_rfl) (by simp) ?_
          refine AllReadyH.cons rfl (fun K hK => ?_) AllReadyH.nil
          go_simp
          refine hK.out _ _ ?_ (fun hHeld => ?_)
          · (try dsimp only); exact ⟨E5.out.2.c4, E5.out.1.x.c3⟩
          clear hK K
          refine wpAnyH_done (by kernel_rfl) ?_ _
          clear E AR HB d0 d1 ixd e5 e6
          have E := hidb E5.out.1
          have AR := hidb E5.out.2
          have HB := HBn
          clear E5 HBn
          generalize V5.setCell ⟨XB + 1 + 1 + x, k, none⟩ (.int .i64 (F5 x k + gw * u)) = W6 at *
          have E9 : Hid (EQ w W6 XB (XB + 1) k k [.int .i64 (k : Int), .int .i64 B, .slice ad n cap] (eqM l k (j + 1))) := by
            rw [HG.out]
            refine E.out.congr fun a b => ?_
            rw [HF6.out, HF5.out, HF4.out, HF3.out, HF2.out, HF1.out, HEq.out]
            omega
          clear E AR HB
          go_wp2
          go_roundw
          case rel => exact ⟨j + 1, H2.out, by go_num, E9⟩
          case measure => have := H2.out; simp [intOf]; omega
    · have h1' : (k : Int) < (M : Int) := by omega
      have H1 := hidb (show k < M by omega)
      have ixk := rrindex (XB + 1) M M k H1.out
      have e9 : IntKind.i64.wrap ((k : Int) + 1) = ((k + 1 : Nat) : Int) := by rw [show (k : Int) + 1 = ((k + 1 : Nat) : Int) by omega]; exact wr_in (by omega) (by have := HM.out; omega)
      obtain ⟨y0, y1⟩ := (E.out.1.a.alloc (.cells CI 3)).1 k (by simp [slL]; exact H1.out)
      have hsz := E.out.2
      have AI := At.newArr wr CI 3
      rw [hCI, hsz] at AI
      have hxb := E.out.1.x.lt
      have hab := E.out.1.a.lt
      have E3 : Hid (EQ w ((wr.alloc (.cells CI 3)).setCell ⟨XB + 1, k, none⟩ (.slice (some ⟨XB + 1 + 1 + k, 0, none⟩) (M + 1) (M + 1))) XB (XB + 1) M (k + 1) [.int .i64 (M : Int), .int .i64 B, .slice ad n cap] (fun _ _ => 0) ∧ ((wr.alloc (.cells CI 3)).setCell ⟨XB + 1, k, none⟩ (.slice (some ⟨XB + 1 + 1 + k, 0, none⟩) (M + 1) (M + 1))).heap.size = XB + 1 + 1 + (k + 1)) := by
        obtain ⟨⟨x1, a1, r1, g1, b1⟩, -⟩ := E.out
        refine ⟨⟨(x1.alloc _).skip (by omega) _ _, ?_, fun i hi => ?_, (g1.alloc _).set (by omega) _ _, b1⟩, by simp; omega⟩
        · have := (a1.alloc (.cells CI 3)).put k (.slice (some ⟨XB + 1 + 1 + k, 0, none⟩) (M + 1) (M + 1))
          rwa [slL_next H1.out] at this
        · by_cases e : i = k
          · subst e
            rw [rowS_zero]
            exact AI.skip (by omega) _ _
          · exact ((r1 i (by omega)).alloc _).skip (by omega) _ _
      clear E h1 hk AI
      go_upto_region 6 with fail
      generalize (wr.alloc (.cells CI 3)).setCell ⟨XB + 1, k, none⟩ (.slice (some ⟨XB + 1 + 1 + k, 0, none⟩) (M + 1) (M + 1)) = W4 at *
      clear z0 z1 z2 y0 y1 hsz hxb hab
      go_wp2
      go_roundw
      case rel => exact ⟨k + 1, H1.out, by go_num, E3⟩
      case measure => have := H1.out; simp [intOf]; omega
end
end Go.Proofs.YtecmkjefoppbiaaDoor
