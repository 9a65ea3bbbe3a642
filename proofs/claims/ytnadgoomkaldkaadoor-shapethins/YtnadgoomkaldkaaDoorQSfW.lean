/-
  mercatorref5.NextOf.
-/
import Derived.Test.YtnadgoomkaldkaaDoorQJ6
import Derived.Lib.MinMax
namespace Go.Proofs.YtnadgoomkaldkaaDoor
open Go.RowKit
attribute [local go_sem ↓] Go.wp_at_zero Go.wp_at_succ

/-- A way as it is told, and 0 for none. -/
def bsI : Option Nat → Int
  | none => 0
  | some b => tdI b
theorem tdI_inj {a b : Nat} (h : tdI a = tdI b) : a = b := by unfold tdI at h; split at h <;> split at h <;> omega
theorem tdI_ne (a : Nat) : ¬ tdI a = 0 := by unfold tdI; split <;> omega
theorem tdI_X (u : Nat) : -(tdI u) = tdI (wyX u) := by unfold tdI wyX; split <;> split <;> omega
theorem tdI_bd {a : Nat} (h : a < 20000) : -20000 < tdI a ∧ tdI a < 20000 := by unfold tdI; split <;> omega
theorem tdI_pos (a : Nat) : 0 < tdI a ↔ a % 2 = 0 := by unfold tdI; split <;> omega
theorem okS_df {x y : Int} (hx : okC x) (hy : okC y) : IntKind.i64.wrap (y - x) = y - x := by unfold okC at *; exact wr_in (by omega) (by omega)
theorem tdI_w0 (k : Nat) : tdI (wyX (2 * k + 0)) = -((k : Int) + 1) := by
  have e : wyX (2 * k + 0) = 2 * k + 1 := by unfold wyX; rw [if_pos (by omega)]
  have e2 : (2 * k + 1) / 2 = k := by omega
  rw [e]; unfold tdI; rw [if_neg (by omega), e2]
theorem tdI_w1 (k : Nat) : tdI (wyX (2 * k + 1)) = (k : Int) + 1 := by
  have e : wyX (2 * k + 1) = 2 * k := by unfold wyX; rw [if_neg (by omega)]; omega
  have e2 : 2 * k / 2 = k := by omega
  rw [e]; unfold tdI; rw [if_pos (by omega), e2]
/-- What lies in memory while the reference looks for the next way. -/
structure NO (w W : World) (A F D : Nat) (p f d : Sp) : Prop where
  a : At W A [.int .i64 p.1, .int .i64 p.2]
  f : At W F [.int .i64 f.1, .int .i64 f.2]
  d : At W D [.int .i64 d.1, .int .i64 d.2]
  g : Gr w W
  lo : w.heap.size ≤ D
  ne : A ≠ D ∧ F ≠ D
theorem NO.below {w W w' : World} {A F D : Nat} {p f d : Sp} (h : NO w W A F D p f d) (hB : Below W.heap.size W w') : NO w w' A F D p f d := ⟨At.below hB h.a, At.below hB h.f, At.below hB h.d, Gr.step h.g hB, h.lo, h.ne⟩
theorem NO.gr {w W w' : World} {A F D : Nat} {p f d : Sp} (h : NO w W A F D p f d) (hB : Gr W w') : NO w w' A F D p f d := h.below hB.out
theorem NO.put {w W : World} {A F D : Nat} {p f d : Sp} (h : NO w W A F D p f d) (x : Sp) : NO w ((W.setCell ⟨D, 0, none⟩ (.int .i64 x.1)).setCell ⟨D, 1, none⟩ (.int .i64 x.2)) A F D p f x :=
  ⟨(h.a.skip h.ne.1.symm _ _).skip h.ne.1.symm _ _, (h.f.skip h.ne.2.symm _ _).skip h.ne.2.symm _ _, At.fill2 (h.d.has rfl) _ _, (h.g.set h.lo _ _).set h.lo _ _, h.lo, h.ne⟩
def DO (w W : World) (Ls : List (List Sp)) (u A F D : Nat) (p r : Sp) (q : Nat) : Prop := ∃ d, NO w W A F D p (dfS p r) d ∧ okD d ∧ ∀ b, nrF Ls u q = some b → d = drW Ls u b
set_option maxRecDepth 4000 in
set_option maxHeartbeats 16000000 in
theorem nextOf_any {pb po : Nat} {ad : Option Addr} {b o cap u : Nat} {Ls : List (List Sp)} (hM : OkM Ls) (hok : okL Ls) (w : World) (hp : w.cell? ⟨pb, po, none⟩ = some (.slice ad Ls.length cap) ∧ pb < w.heap.size) (h : LLs w ad b o cap Ls) (hu : u < 2 * Ls.length) (hN : Ls.length ≤ 5000) (ll : ∀ i, i < Ls.length → (lx Ls i).length ≤ 5000) : Calls Tryd.prog 30 #[.pointer (some ⟨pb, po, none⟩), .int .i64 (tdI u)] w fun e w' => e = .returned (.int .i64 (tdI (nxP Ls u))) ∧ Gr w w' := by
  have HW := hidb (fun k (hk : k < 2 * Ls.length) W (hG : Gr w W) => wayEnds_any (k := k) W ⟨(hG.out.cell (p := ⟨pb, po, none⟩) hp.2).trans hp.1, Nat.lt_of_lt_of_le hp.2 hG.out.size⟩ (h.below hG.out) hk hN (hM.a _ (by omega)).1 (ll _ (by omega)))
  have HCP := hidb (fun W (hG : Gr w W) => (hG.out.cell (p := ⟨pb, po, none⟩) hp.2).trans hp.1)
  have HOp : Hid (∀ k, k < 2 * Ls.length → okP (ouP Ls k)) := fun k hk => by
    have hi : k / 2 < Ls.length := by omega
    have h3 := (hM.a _ hi).1
    unfold ouP
    split
    · exact ⟨hok _ hi 0 (by omega), hok _ hi 1 (by omega)⟩
    · exact ⟨hok _ hi _ (by omega), hok _ hi _ (by omega)⟩
  have HX := hidb (wyX_lt hu)
  have HR := hidb (hM.ref hu)
  have HD := hidb (show ∀ k, drW Ls u k = dfS (ouP Ls (wyX u)).1 (ouP Ls k).2 from fun _ => rfl)
  have HSt := hidb (show ∀ q, nrF Ls u (q + 1) = nrS Ls u (nrF Ls u q) (wyX q) from fun _ => rfl)
  have HZr := hidb (show nrF Ls u 0 = Option.none from rfl)
  obtain ⟨N, hNn⟩ : ∃ N, N = Ls.length := ⟨_, rfl⟩
  have HN := hidb hNn
  rw [← hNn] at HW HCP HOp HX HR hN hu
  have HNb := hidb hN
  have HUb := hidb hu
  obtain ⟨bk, hbk⟩ : ∃ z, z = wyX u := ⟨_, rfl⟩
  have HBk := hidb hbk
  rw [← hbk] at HX HR HD
  have eB : IntKind.i64.wrap (-(tdI u)) = tdI bk := by rw [tdI_X, ← hbk]; have := tdI_bd (a := bk) (by have := HX.out; omega); exact wr_in (by omega) (by omega)
  obtain ⟨T, hT⟩ : ∃ z, z = tdI u := ⟨_, rfl⟩
  obtain ⟨B, hB⟩ : ∃ z, z = tdI bk := ⟨_, rfl⟩
  have HB := hidb hB
  rw [← hT, ← hB] at eB
  rw [← hT]
  have HW0 := hidb (HW.out bk HX.out)
  rw [← hB] at HW0
  have HO0 := hidb (HOp.out bk HX.out)
  obtain ⟨c, hc⟩ : ∃ z, z = ouP Ls bk := ⟨_, rfl⟩
  have HC := hidb hc
  rw [← hc] at HW0 HO0 HD
  obtain ⟨p, r⟩ := c
  obtain ⟨en, hen⟩ : ∃ z, z = wyE Ls bk := ⟨_, rfl⟩
  rw [← hen] at HW0
  dsimp only at HW0 HD
  have q1 := okS_df HO0.out.1.1 HO0.out.2.1
  have q2 := okS_df HO0.out.1.2 HO0.out.2.2
  dsimp only at q1 q2
  clear h hu hN hp ll hM hok hNn hbk hc hen hT hB
  go_enter Tryd.func30, Tryd.ntmps30
  go_upto_region 2 with (go_at_call 47; refine (HW0.out _ (Gr.refl _)).mono ?_; rintro e w1 ⟨rfl, hB1⟩)
  have FW : Hid (At (((w1.alloc (.cells #[.int .i64 p.1, .int .i64 p.2] 52)).alloc (.cells #[.int .i64 r.1, .int .i64 r.2] 52)).alloc (.cells #[.int .i64 en.1, .int .i64 en.2] 52)) w1.heap.size [.int .i64 p.1, .int .i64 p.2] ∧ At (((w1.alloc (.cells #[.int .i64 p.1, .int .i64 p.2] 52)).alloc (.cells #[.int .i64 r.1, .int .i64 r.2] 52)).alloc (.cells #[.int .i64 en.1, .int .i64 en.2] 52)) (w1.heap.size + 1) [.int .i64 r.1, .int .i64 r.2] ∧ Gr w (((w1.alloc (.cells #[.int .i64 p.1, .int .i64 p.2] 52)).alloc (.cells #[.int .i64 r.1, .int .i64 r.2] 52)).alloc (.cells #[.int .i64 en.1, .int .i64 en.2] 52))) :=
    ⟨((At.new2 _ _ _ _).alloc _).alloc _, (At.nx2 _ _ _ _).alloc _, ((hB1.alloc _).alloc _).alloc _⟩
  generalize ((w1.alloc (.cells #[.int .i64 p.1, .int .i64 p.2] 52)).alloc (.cells #[.int .i64 r.1, .int .i64 r.2] 52)).alloc (.cells #[.int .i64 en.1, .int .i64 en.2] 52) = W1 at *
  generalize w1.heap.size = A at *
  clear hB1 w1
  obtain ⟨a0, a1⟩ := FW.out.1.c2
  obtain ⟨b0, b1⟩ := FW.out.2.1.c2
  go_upto_region 5 with fail
  have E0 : Hid (NO w ((W1.alloc (.cells #[.int .i64 (r.1 - p.1), .int .i64 (r.2 - p.2)] 52)).alloc (.cells #[.int .i64 0, .int .i64 0] 52)) A W1.heap.size (W1.heap.size + 1) p (dfS p r) (0, 0)) :=
    ⟨(FW.out.1.alloc _).alloc _, (At.new2 _ _ _ _).alloc _, At.nx2 _ _ _ _, (FW.out.2.2.alloc _).alloc _, by have := FW.out.2.2.out.size; omega, by have := FW.out.1.lt; omega⟩
  generalize (W1.alloc (.cells #[.int .i64 (r.1 - p.1), .int .i64 (r.2 - p.2)] 52)).alloc (.cells #[.int .i64 0, .int .i64 0] 52) = W2 at *
  generalize hD : W1.heap.size + 1 = D at *
  generalize W1.heap.size = F at *
  clear FW a0 a1 b0 b1 hD
  have HE0 := hidb (show DO w W2 Ls u A F D p r 0 from ⟨(0, 0), E0.out, ⟨⟨by decide, by decide⟩, by decide, by decide⟩, fun b hb => by rw [HZr.out] at hb; cases hb⟩)
  have HG0 := hidb E0.out.g
  clear E0 HW0
  go_wp2
  go_loopw [9, 11] (fun s t wr => ∃ k : Nat, k ≤ N ∧ s = .int .i64 (bsI (nrF Ls u (2 * k))) ∧ t = .int .i64 ((k : Int) + 1) ∧ Hid (DO w wr Ls u A F D p r (2 * k))) (fun _ t _ => N + 1 - (intOf t).toNat)
  case atStart => exact ⟨0, Nat.zero_le _, by rw [Nat.mul_zero, HZr.out]; rfl, rfl, HE0⟩
  case round =>
    clear HE0 HG0
    obtain ⟨k, hk, rfl, rfl, E⟩ := hrel
    have cP := HCP.out wr E.out.choose_spec.1.g
    by_cases h1 : ¬ k < N
    · have h1' : ¬ (k : Int) + 1 ≤ (N : Int) := by omega
      have HG := hidb E.out.choose_spec.1.g
      have HZ := HR.out
      rw [show 2 * N = 2 * k by omega] at HZ
      obtain ⟨bf, hbf⟩ : ∃ z, z = nrF Ls u (2 * k) := ⟨_, rfl⟩
      rw [← hbf] at HZ ⊢
      clear h1 E hbf
      cases bf with
      | none =>
        have HZ2 := hidb (show bk = nxP Ls u from HZ)
        have hs : bsI Option.none = 0 := rfl
        rw [hs]
        clear HZ hs
        go_wp2
        go_ret
        exact ⟨by rw [← HZ2.out, ← HB.out]; rfl, HG.out⟩
      | some b =>
        have HZ2 := hidb (show b = nxP Ls u from HZ)
        have hs : bsI (some b) = tdI b := rfl
        rw [hs]
        have hn := tdI_ne b
        have hn2 : (tdI b = 0) = False := eq_false hn
        have hn3 : (tdI b == 0) = false := beq_eq_false_iff_ne.2 hn
        have HZ3 := hidb (show tdI b = tdI (nxP Ls u) by rw [HZ2.out])
        generalize tdI b = Z at *
        clear HZ hs
        go_wp2
        go_ret
        exact ⟨by rw [← HZ3.out]; rfl, HG.out⟩
    · have h1' : (k : Int) + 1 ≤ (N : Int) := by omega
      have H1 := hidb (show k < N by omega)
      have e1 : IntKind.i64.wrap ((k : Int) + 1 + 1) = ((k + 1 : Nat) : Int) + 1 := by rw [show (k : Int) + 1 + 1 = ((k + 1 : Nat) : Int) + 1 by omega]; exact wr_in (by omega) (by have := HNb.out; omega)
      clear h1
      go_wp2
      go_loopw [9, 12] (fun s t wx => ∃ j : Nat, j ≤ 2 ∧ s = .int .i64 (bsI (nrF Ls u (2 * k + j))) ∧ t = .int .i64 (2 * (j : Int) - 1) ∧ Hid (DO w wx Ls u A F D p r (2 * k + j))) (fun _ t _ => 4 - (intOf t).toNat)
      case atStart => exact ⟨0, Nat.zero_le _, rfl, rfl, E⟩
      case round =>
        clear E cP
        obtain ⟨j, hj, rfl, rfl, E⟩ := hrel
        by_cases h2 : ¬ j < 2
        · obtain rfl : j = 2 := by omega
          clear h2
          go_wp2
          go_roundw
          case rel => exact ⟨k + 1, H1.out, rfl, by go_num, E⟩
          case measure => have := H1.out; simp [intOf]; omega
        · have h2' : 2 * (j : Int) - 1 ≤ 1 := by omega
          have HJ := hidb (show j < 2 by omega)
          have e2 : IntKind.i64.wrap (2 * (j : Int) - 1 + 2) = 2 * ((j + 1 : Nat) : Int) - 1 := by rw [show 2 * (j : Int) - 1 + 2 = 2 * ((j + 1 : Nat) : Int) - 1 by omega]; exact wr_in (by omega) (by omega)
          have hq : 2 * k + j < 2 * N := by have := H1.out; omega
          obtain ⟨v, hv⟩ : ∃ z, z = wyX (2 * k + j) := ⟨_, rfl⟩
          have hvl : v < 2 * N := by rw [hv]; exact wyX_lt hq
          have e3 : IntKind.i64.wrap (((k : Int) + 1) * (2 * (j : Int) - 1)) = tdI v := by
            have hb := tdI_bd (a := v) (by have := HNb.out; omega)
            have e : ((k : Int) + 1) * (2 * (j : Int) - 1) = tdI v := by
              rw [hv]
              rcases (show j = 0 ∨ j = 1 by omega) with rfl | rfl
              · rw [tdI_w0]; simp
              · rw [tdI_w1]; simp
            rw [e]; exact wr_in (by omega) (by omega)
          have HS := hidb (HSt.out (2 * k + j))
          rw [← hv] at HS
          have HWv := hidb (HW.out v hvl)
          have HOv := hidb (HOp.out v hvl)
          have hvB : tdI v = B ↔ v = bk := ⟨fun h => tdI_inj (h.trans HB.out), fun h => by rw [h, HB.out]⟩
          have HDv := HD.out v
          obtain ⟨c2, hc2⟩ : ∃ z, z = ouP Ls v := ⟨_, rfl⟩
          have HC2 := hidb hc2
          rw [← hc2] at HWv HOv HDv
          obtain ⟨p2, r2⟩ := c2
          obtain ⟨e2n, he2n⟩ : ∃ z, z = wyE Ls v := ⟨_, rfl⟩
          rw [← he2n] at HWv
          dsimp only at HWv HDv
          have HDv2 := hidb HDv
          have q3 := okS_df HO0.out.1.1 HOv.out.2.1
          have q4 := okS_df HO0.out.1.2 HOv.out.2.2
          dsimp only at q3 q4
          have g1 := sp_ne p2 p
          obtain ⟨Z, hZ⟩ : ∃ z, z = tdI v := ⟨_, rfl⟩
          have HZv := hidb hZ
          rw [← hZ] at e3 hvB HWv
          obtain ⟨bf, hbf⟩ : ∃ z, z = nrF Ls u (2 * k + j) := ⟨_, rfl⟩
          have HBf := hidb hbf
          rw [← hbf] at HS ⊢
          have HTk : Hid (takes Ls u bf v ↔ (v ≠ bk ∧ p2 = p) ∧ ∀ b, bf = some b → srP (dfS p r) (dfS p r2) (drW Ls u b)) := by
            show takes Ls u bf v ↔ _
            unfold takes cnW
            rw [← HBk.out, ← HC.out, ← HC2.out, HDv2.out, HD.out bk, ← HC.out]
          have HYes : Hid (takes Ls u bf v → nrF Ls u (2 * k + (j + 1)) = some v) := fun h => by
            rw [show 2 * k + (j + 1) = 2 * k + j + 1 by omega, HS.out]; unfold nrS; exact if_pos h
          have HNo : Hid (¬ takes Ls u bf v → nrF Ls u (2 * k + (j + 1)) = bf) := fun h => by
            rw [show 2 * k + (j + 1) = 2 * k + j + 1 by omega, HS.out]; unfold nrS; exact if_neg h
          clear h2 hq hvl hv HDv HS hc2 he2n hZ hbf
          obtain ⟨d, E1, hdo, hdb⟩ := E.out
          have FA := hidb E1
          have HDo := hidb hdo
          have HDb := hidb hdb
          rw [← HBf.out] at HDb
          clear E E1 hdo hdb
          go_upto_region 13 with (go_at_call 47; refine (HWv.out _ FA.out.g).mono ?_; rintro e w3 ⟨rfl, hB3⟩)
          have FW : Hid (At (((w3.alloc (.cells #[.int .i64 p2.1, .int .i64 p2.2] 52)).alloc (.cells #[.int .i64 r2.1, .int .i64 r2.2] 52)).alloc (.cells #[.int .i64 e2n.1, .int .i64 e2n.2] 52)) w3.heap.size [.int .i64 p2.1, .int .i64 p2.2] ∧ At (((w3.alloc (.cells #[.int .i64 p2.1, .int .i64 p2.2] 52)).alloc (.cells #[.int .i64 r2.1, .int .i64 r2.2] 52)).alloc (.cells #[.int .i64 e2n.1, .int .i64 e2n.2] 52)) (w3.heap.size + 1) [.int .i64 r2.1, .int .i64 r2.2] ∧ NO w (((w3.alloc (.cells #[.int .i64 p2.1, .int .i64 p2.2] 52)).alloc (.cells #[.int .i64 r2.1, .int .i64 r2.2] 52)).alloc (.cells #[.int .i64 e2n.1, .int .i64 e2n.2] 52)) A F D p (dfS p r) d) :=
            ⟨((At.new2 _ _ _ _).alloc _).alloc _, (At.nx2 _ _ _ _).alloc _, (FA.out.below hB3.out).gr ((((Gr.refl w3).alloc _).alloc _).alloc _)⟩
          generalize ((w3.alloc (.cells #[.int .i64 p2.1, .int .i64 p2.2] 52)).alloc (.cells #[.int .i64 r2.1, .int .i64 r2.2] 52)).alloc (.cells #[.int .i64 e2n.1, .int .i64 e2n.2] 52) = W4 at *
          generalize w3.heap.size = P at *
          clear hB3 w3 FA HWv
          obtain ⟨a0, a1⟩ := FW.out.1.c2
          obtain ⟨b0, b1⟩ := FW.out.2.1.c2
          obtain ⟨x0, x1⟩ := FW.out.2.2.a.c2
          have stay : ∀ (h : ¬ takes Ls u bf v), bsI (nrF Ls u (2 * k + (j + 1))) = bsI bf ∧ Hid (DO w W4 Ls u A F D p r (2 * k + (j + 1))) := fun h => ⟨by rw [HNo.out h], hidb ⟨d, FW.out.2.2, HDo.out, by rw [HNo.out h]; exact HDb.out⟩⟩
          have HStay := hidb stay
          clear stay
          by_cases c1 : v = bk
          · have hq1 : (Z == B) = true := beq_iff_eq.2 (hvB.2 c1)
            have hq2 : (Z = B) = True := eq_true (hvB.2 c1)
            have HZ := hidb (HStay.out (fun h => (HTk.out.1 h).1.1 c1))
            clear c1 hvB HStay
            go_wp2
            go_roundw
            case rel => exact ⟨j + 1, HJ.out, by rw [HZ.out.1], by go_num, HZ.out.2⟩
            case measure => have := HJ.out; simp [intOf]; omega
          · have hq1 : (Z == B) = false := beq_eq_false_iff_ne.2 (fun h => c1 (hvB.1 h))
            have hq2 : (Z = B) = False := eq_false (fun h => c1 (hvB.1 h))
            by_cases c2 : p2 = p
            · subst c2
              rw [decide_eq_true rfl] at g1
              have C1 := hidb c1
              clear c1 hvB
              go_upto_region 15 with fail
              have FX : Hid (At (W4.alloc (.cells #[.int .i64 (r2.1 - p2.1), .int .i64 (r2.2 - p2.2)] 52)) W4.heap.size [.int .i64 (dfS p2 r2).1, .int .i64 (dfS p2 r2).2] ∧ NO w (W4.alloc (.cells #[.int .i64 (r2.1 - p2.1), .int .i64 (r2.2 - p2.2)] 52)) A F D p2 (dfS p2 r) d ∧ D < W4.heap.size) :=
                ⟨At.new2 _ _ _ _, FW.out.2.2.gr ((Gr.refl W4).alloc _), FW.out.2.2.d.lt⟩
              generalize W4.alloc (.cells #[.int .i64 (r2.1 - p2.1), .int .i64 (r2.2 - p2.2)] 52) = W5 at *
              generalize hX : W4.heap.size = X at *
              clear a0 a1 b0 b1 x0 x1 q1 q2 q3 q4 g1 HStay hX
              have HDf := hidb (dfS_ok HO0.out.1 HO0.out.2)
              have HDg := hidb (dfS_ok HOv.out.1 HOv.out.2)
              dsimp only at HDf HDg
              have HNS := hidb (fun W => rsooner_any HDf.out HDg.out HDo.out W)
              have HYd := hidb (HDv2.out)
              generalize hf : dfS p2 r = f at *
              have HF := hidb hf
              clear hf
              generalize dfS p2 r2 = g at *
              have HEnd : Hid (∀ W, takes Ls u bf v → Gr W5 W → bsI (nrF Ls u (2 * k + (j + 1))) = Z ∧ DO w ((W.setCell ⟨D, 0, none⟩ (.int .i64 g.1)).setCell ⟨D, 1, none⟩ (.int .i64 g.2)) Ls u A F D p2 r (2 * k + (j + 1))) := fun W ht h =>
                ⟨by rw [HYes.out ht]; exact HZv.out.symm, g, by rw [HF.out]; exact (FX.out.2.1.gr h).put g, HDg.out, fun b hb => by rw [HYes.out ht] at hb; cases hb; exact HYd.out.symm⟩
              have HStay : Hid (∀ W, ¬ takes Ls u bf v → Gr W5 W → bsI (nrF Ls u (2 * k + (j + 1))) = bsI bf ∧ DO w W Ls u A F D p2 r (2 * k + (j + 1))) := fun W ht h =>
                ⟨by rw [HNo.out ht], d, by rw [HF.out]; exact FX.out.2.1.gr h, HDo.out, by rw [HNo.out ht]; exact HDb.out⟩
              obtain ⟨a0, a1⟩ := FX.out.1.c2
              obtain ⟨x0, x1⟩ := FX.out.2.1.f.c2
              obtain ⟨d0, d1⟩ := FX.out.2.1.d.c2
              obtain ⟨y0, y1⟩ := FX.out.2.1.d.f2
              cases bf with
              | none =>
                have HT := hidb (HTk.out.2 ⟨⟨C1.out, rfl⟩, fun b hb => by cases hb⟩)
                have HZ := hidb (HEnd.out W5 HT.out (Gr.refl _))
                have hs : bsI Option.none = 0 := rfl
                rw [hs]
                clear hs HStay HT HNS HTk HNo HYes
                go_wp2
                go_roundw
                case rel => exact ⟨j + 1, HJ.out, by rw [HZ.out.1], by go_num, hidb HZ.out.2⟩
                case measure => have := HJ.out; simp [intOf]; omega
              | some b =>
                have hs : bsI (some b) = tdI b := rfl
                have hn := tdI_ne b
                have hn2 : (tdI b = 0) = False := eq_false hn
                have hn3 : (tdI b == 0) = false := beq_eq_false_iff_ne.2 hn
                have hd : d = drW Ls u b := HDb.out b rfl
                have HTk2 : Hid (takes Ls u (some b) v ↔ srP f g d) := ⟨fun h => by have := (HTk.out.1 h).2 b rfl; rw [← hd] at this; exact this, fun h => HTk.out.2 ⟨⟨C1.out, rfl⟩, fun b' hb => by cases hb; rw [← hd]; exact h⟩⟩
                rw [hs] at HStay ⊢
                generalize tdI b = Y at *
                clear hs hd hn
                by_cases c3 : srP f g d
                · have HT := hidb (HTk2.out.2 c3)
                  rw [decide_eq_true c3] at HNS
                  have HZ := hidb (fun W h => HEnd.out W HT.out h)
                  clear HStay HTk HTk2 HNo HYes HEnd c3 HT
                  go_upto_region 16 with (go_at_call 48; refine (HNS.out _).mono ?_; rintro e w6 ⟨rfl, hB6⟩; obtain ⟨a0, a1⟩ := (At.below hB6.out FX.out.1).c2; obtain ⟨d0, d1⟩ := (FX.out.2.1.below hB6.out).d.c2; obtain ⟨y0, y1⟩ := (FX.out.2.1.below hB6.out).d.f2)
                  have HZ6 := hidb (HZ.out _ hB6)
                  clear HZ HNS hB6
                  go_wp2
                  go_roundw
                  case rel => exact ⟨j + 1, HJ.out, by rw [HZ6.out.1], by go_num, hidb HZ6.out.2⟩
                  case measure => have := HJ.out; simp [intOf]; omega
                · have HT := hidb (fun h => c3 (HTk2.out.1 h))
                  rw [decide_eq_false c3] at HNS
                  have HZ := hidb (fun W h => HStay.out W HT.out h)
                  clear HStay HTk HTk2 HNo HYes HEnd c3 HT
                  go_wp2_with (go_at_call 48; refine (HNS.out _).mono ?_; rintro e w6 ⟨rfl, hB6⟩; obtain ⟨a0, a1⟩ := (At.below hB6.out FX.out.1).c2; obtain ⟨d0, d1⟩ := (FX.out.2.1.below hB6.out).d.c2; obtain ⟨y0, y1⟩ := (FX.out.2.1.below hB6.out).d.f2)
                  have HZ6 := hidb (HZ.out _ hB6)
                  clear HZ HNS hB6
                  go_wp2
                  go_roundw
                  case rel => exact ⟨j + 1, HJ.out, by rw [HZ6.out.1], by go_num, hidb HZ6.out.2⟩
                  case measure => have := HJ.out; simp [intOf]; omega
            · rw [decide_eq_false c2] at g1
              have HZ := hidb (HStay.out (fun h => c2 (HTk.out.1 h).1.2))
              clear c1 hvB HStay c2
              go_wp2
              go_roundw
              case rel => exact ⟨j + 1, HJ.out, by rw [HZ.out.1], by go_num, HZ.out.2⟩
              case measure => have := HJ.out; simp [intOf]; omega
end Go.Proofs.YtnadgoomkaldkaaDoor
