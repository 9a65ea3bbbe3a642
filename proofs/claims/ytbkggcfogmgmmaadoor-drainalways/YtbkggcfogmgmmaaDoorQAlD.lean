/-
  DrainAlways, where the raster is right and there is as much rain as there are cells.
-/
import Derived.Test.YtbkggcfogmgmmaaDoorQJ8
namespace Go.Proofs.YtbkggcfogmgmmaaDoor
open Go.RowKit
attribute [local go_sem ↓] Go.wp_at_zero Go.wp_at_succ

theorem w64_in {k : Nat} (h : k ≤ 100) : wrap64 (k : Int) = (k : Int) := by unfold wrap64; omega
theorem itw_stop {m n : Nat} {l : List Int} (ok : Ok l m n) {c : Nat} (hc : c < l.length) : tw m n l (itw m n l l.length c) = itw m n l l.length c := hom_fix m n l ok.m1 ok.len hc
theorem flo_fi0 {m n : Nat} {l : List Int} {i : Nat} (h : (flo m n l l.length).st i = 0) : fih m n l i ≤ 4611686018427387904 := by
  have key : ∀ k, (flo m n l k).st i = 0 → (flo m n l k).fi i = 0 := by
    intro k
    induction k with
    | zero =>
      intro h0
      have h1 : (if i < l.length ∧ rim m n i then 1 else 0) = 0 := h0
      show (if i < l.length ∧ rim m n i then gl l i else 0) = 0
      by_cases c : i < l.length ∧ rim m n i
      · rw [if_pos c] at h1; omega
      · rw [if_neg c]
    | succ k ih =>
      unfold flo
      cases hq : bst (flo m n l k) l.length with
      | none => exact ih
      | some b =>
        intro h0
        have h1 : (if i = b then 2 else if New m l (flo m n l k) b i then 1 else (flo m n l k).st i) = 0 := h0
        show (if New m l (flo m n l k) b i then up1 (gl l i) ((flo m n l k).fi b) else (flo m n l k).fi i) = 0
        by_cases e : i = b
        · rw [if_pos e] at h1; omega
        · rw [if_neg e] at h1
          by_cases c : New m l (flo m n l k) b i
          · rw [if_pos c] at h1; omega
          · rw [if_neg c] at h1 ⊢; exact ih h1
  unfold fih
  rw [key _ h]
  decide
theorem fih_hi {m n : Nat} {l : List Int} (ok : Ok l m n) : ∀ k, k < l.length → fih m n l (oc m n l k) ≤ 1048576 := by
  intro k
  induction k using Nat.strongRecOn with
  | _ k ih =>
    intro hk
    have hlt := oc_lt m n l ok.m1 ok.len hk
    have h := (flo_h m n l ok.m1 ok.len l.length (Nat.le_refl _)).fix (oc m n l k) (by rw [flo_all m n l ok.m1 ok.len _ hlt]; omega)
    have hh := ok.hi (oc m n l k)
    unfold hiI at hh
    by_cases hr : rim m n (oc m n l k)
    · unfold fih; rw [h.1 hr]; omega
    · have hn : ¬ tw m n l (oc m n l k) = oc m n l k := fun e => hr ((tw_fix m n l ok.m1 ok.len hlt).1 e)
      obtain ⟨j, hj, hjt⟩ := (oc_bef m n l ok.m1 ok.len hk).resolve_left hn
      have h2 := ih j hj (by omega)
      rw [hjt] at h2
      have h3 := (h.2 hr).1
      unfold fih at h2 ⊢
      rw [h3]
      have h4 : (flo m n l l.length).fi ((flo m n l l.length).tw (oc m n l k)) ≤ 1048576 := h2
      unfold up1
      split <;> omega
set_option maxRecDepth 4000 in
set_option maxHeartbeats 16000000 in
theorem always_B (g : Nat → Addr) {m n pb po b o cap rb ro rcap : Nat} {l r : List Int} (w : World) (hl : Lai w g) (ra2 : Rin w pb po m n (some ⟨b, o, none⟩) b o cap l) (hr : Rs w b o cap l) (ok : Ok l m n) (ll : l.length ≤ 80) (hv : vcode m n l = 0) (hr2 : Rs w rb ro rcap r) (hrl : r.length = l.length) : Calls Tryd.prog 6 #[.pointer (some ⟨pb, po, none⟩), .slice (some ⟨rb, ro, none⟩) r.length rcap] w fun e w' => e = .returned (.bool true) ∧ Gr w w' := by
  have hlen := ok.len_le
  have CR := hidb (drains_any g w hl)
  have S1 := hidb (fun W1 (hG : Gr w W1) => small4_any pb po m n (some ⟨b, o, none⟩) l.length cap W1 (ra2.below hG).pt)
  rw [decide_eq_true ll] at S1
  have C1 := hidb (fun W1 (hG : Gr w W1) => fill_ok g W1 (hr.below hG.out) ok hv (hl.below hG.out))
  have C2 := hidb (fun W1 (hG : Gr w W1) (hrr : rainsB r = true) => gather_ok g W1 (hr.below hG.out) ok hv (hl.below hG.out) (hr2.below hG.out) hrl hrr)
  have C3 := hidb (fun i (hi : i < l.length) W1 (hG : Gr w W1) => way_ok g i hi W1 (hr.below hG.out) ok hv (hl.below hG.out))
  have CW := hidb (fun W1 (hG : Gr w W1) => rasterError_any pb po m n (some ⟨b, o, none⟩) b o cap l W1 (ra2.below hG).pt (ra2.below hG).sl (by omega))
  rw [hv] at CW
  have C4 := hidb (fun i (hi : i < l.length) W1 (hG : Gr w W1) => isRim_any (n := n) l.length i ok.m1 ok.len hlen hi W1 (ra2.below hG).pt)
  have C5 := hidb (fun x y (hx : x < l.length) (hy : y < l.length) W1 (hG : Gr w W1) => touchOf_any (pb := pb) (po := po) x y ok.m1 (by omega) (by omega) W1 (ra2.below hG).pt)
  have C6 := hidb (fun i num (hi : i < l.length) W1 (hG : Gr w W1) => wet_any i num hi W1 (ra2.below hG).pt (hr.below hG.out) ok)
  have HR := hidb ra2
  have HL := hidb (show l.length ≤ 80 from ll)
  have HOk := hidb ok
  have HI := hidb hr2
  have HRl := hidb hrl
  have HHr := hidb hr
  have HFb : Hid (∀ i, fih m n l i ≤ 4611686018427387904) := fun i => by
    by_cases hi : i < l.length
    · obtain ⟨k, hk, rfl⟩ := oc_all m n l ok.m1 ok.len hi
      have := fih_hi ok k hk
      omega
    · have : (flo m n l l.length).st i = 0 := (flo_inv m n l ok.m1 ok.len l.length (Nat.le_refl _)).1.out i (by omega)
      exact flo_fi0 this
  obtain ⟨N, hN⟩ : ∃ N, N = l.length := ⟨_, rfl⟩
  have HN := hidb hN
  have hM : r.length = N := by omega
  rw [hM]
  have HM := hidb hM
  rw [← hN] at C1 C2 C3 C4 C5 C6 HL HRl
  clear hl ra2 hr ok ll hv hN hM hr2 hrl hlen
  go_enter Tryd.func6, Tryd.ntmps6
  go_wp2_with fail
  refine CR.out.mono ?_
  rintro e w1 ⟨rfl, hB⟩
  have G := hidb hB
  clear hB
  go_wp2_with fail
  refine (S1.out _ G.out).mono ?_
  rintro e w2 ⟨rfl, rfl⟩
  go_wp2_with fail
  refine (CW.out _ G.out).mono ?_
  rintro e w3 ⟨rfl, hB⟩
  replace G := hidb (Gr.step G.out hB.out)
  clear hB
  obtain ⟨p0, p1, p2⟩ := (HR.out.below G.out).pt.all
  rw [← HN.out] at p2
  go_wp2
  clear p0 p1 p2 CR S1 CW
  go_loopw [7, 8] (fun s t wr => ∃ i : Nat, i ≤ N ∧ s = .int .i64 (smF (gl r) i) ∧ t = .int .i64 (i : Int) ∧ Hid (wr = w3 ∧ ∀ k, k < i → rainI (gl r k))) (fun _ t _ => N - (intOf t).toNat)
  case atStart => exact ⟨0, Nat.zero_le _, rfl, rfl, hidb ⟨rfl, fun k hk => absurd hk (Nat.not_lt_zero _)⟩⟩
  case round =>
    obtain ⟨i, hi, rfl, rfl, E⟩ := hrel
    have hwr := E.out.1
    have HQ := hidb E.out.2
    subst hwr
    clear E
    by_cases h1 : i < N
    · have h1' : (i : Int) < (N : Int) := by omega
      have e1 : IntKind.i64.wrap ((i : Int) + 1) = ((i + 1 : Nat) : Int) := by rw [show (i : Int) + 1 = ((i + 1 : Nat) : Int) by omega]; exact wrap_in (by have := HL.out; omega) (by have := HL.out; omega)
      have hir : i < r.length := by rw [HM.out]; exact h1
      have IRw := (HI.out.below G.out.out).isl
      have ixr := IRw.ix i hir
      have cr := IRw.gcell hir
      rw [HM.out] at ixr
      have HB : Hid (0 ≤ smF (gl r) i ∧ smF (gl r) i ≤ (i : Int) * 1048576) := ⟨smF_nonneg (fun j hj => (HQ.out j hj).1), smF_le (fun j hj => (HQ.out j hj).2)⟩
      have HSu : Hid (smF (gl r) (i + 1) = smF (gl r) i + gl r i) := rfl
      have HQ2 : Hid (rainI (gl r i) → ∀ k, k < i + 1 → rainI (gl r k)) := fun hx k hk => by
        by_cases e : k = i
        · rw [e]; exact hx
        · exact HQ.out k (by omega)
      clear IRw hir
      generalize gl r i = x at *
      by_cases hx1 : x < 0
      · clear h1
        go_wp2
        go_ret
        exact ⟨rfl, G.out⟩
      · by_cases hx2 : 1048576 < x
        · clear h1
          go_wp2
          go_ret
          exact ⟨rfl, G.out⟩
        · have e2 : IntKind.i64.wrap (smF (gl r) i + x) = smF (gl r) (i + 1) := by rw [HSu.out]; exact wrap_in (by have := HB.out; have := HL.out; omega) (by have := HB.out; have := HL.out; omega)
          have HQ3 := hidb (HQ2.out ⟨by omega, by omega⟩)
          clear h1
          go_wp2
          go_roundw
          case rel => exact ⟨i + 1, by omega, rfl, by go_num, hidb ⟨by trivial, HQ3.out⟩⟩
          case measure => simp [intOf]; omega
    · have h1' : ¬ (i : Int) < (N : Int) := by omega
      obtain rfl : N = i := by omega
      have HRr : Hid (∀ k, k < l.length → rainI (gl r k)) := fun k hk => HQ.out k (by rw [HN.out]; exact hk)
      have hrr : rainsB r = true := decide_eq_true (rain_all (fun k hk => HRr.out k (by rw [← HN.out, ← HM.out]; exact hk)))
      have C2' := hidb (fun W1 hG => C2.out W1 hG hrr)
      have HA0 : Hid (smF (gl r) N = lft m n l r 0) := by show _ = _; rw [lft_0, HN.out]
      rw [HA0.out]
      clear h1 C2 hrr HQ HA0
      obtain ⟨p0, p1, p2⟩ := (HR.out.below G.out).pt.all
      rw [← HN.out] at p2
      go_wp2_with fail
      refine (C1.out _ G.out).mono ?_
      rintro e w4 ⟨LV, rfl, hLV, -, hB⟩
      have ALV := hidb (hLV.alloc (.cells #[.int .i64 (m : Int), .int .i64 (n : Int), .slice (some ⟨LV, 0, none⟩) N N] 27))
      replace G := hidb ((Gr.step G.out hB.out).alloc (.cells #[.int .i64 (m : Int), .int .i64 (n : Int), .slice (some ⟨LV, 0, none⟩) N N] 27))
      have A9 := hidb (At.new3 w4 (.int .i64 (m : Int)) (.int .i64 (n : Int)) (.slice (some ⟨LV, 0, none⟩) N N) 27)
      obtain ⟨T9, hT9⟩ : ∃ z, z = w4.heap.size := ⟨_, rfl⟩
      clear hB p0 p1 p2 hLV
      go_upto_region 13 with fail
      rw [← hT9] at A9 ⊢
      generalize w4.alloc (.cells #[.int .i64 (m : Int), .int .i64 (n : Int), .slice (some ⟨LV, 0, none⟩) N N] 27) = w5 at *
      clear hT9
      obtain ⟨p0, p1, p2⟩ := (HR.out.below G.out).pt.all
      rw [← HN.out] at p2
      go_wp2_with fail
      refine (C2'.out _ G.out).mono ?_
      rintro e w6 ⟨OUT, cp, rfl, hO, -, hB⟩
      replace G := hidb (Gr.step G.out hB.out)
      replace A9 := hidb (At.below hB.out A9.out)
      replace ALV := hidb (At.below hB.out ALV.out)
      have AOu := hidb hO
      clear hB hO p0 p1 p2 C1 C2'
      obtain ⟨p0, p1, p2⟩ := (HR.out.below G.out).pt.all
      rw [← HN.out] at p2
      obtain ⟨f0, f1, f2⟩ := A9.out.c3
      go_upto_region 14 with fail
      go_quiet (fail)
      go_wp2
      clear p0 p1 p2 f0 f1 f2
      generalize hwv : World.drewN w6 _ = w9
      replace G := hidb (show Gr w w9 by rw [← hwv]; exact G.out.drewN _)
      replace A9 := hidb (show At w9 T9 _ by rw [← hwv]; exact A9.out.drewN _)
      replace ALV := hidb (show At w9 LV _ by rw [← hwv]; exact ALV.out.drewN _)
      replace AOu := hidb (show At w9 OUT _ by rw [← hwv]; exact AOu.out.drewN _)
      clear hwv
      have HPt : Hid (∀ W, Gr w9 W → W.cell? ⟨pb, po, none⟩ = some (.int .i64 (m : Int)) ∧ W.cell? ⟨pb, po + 1, none⟩ = some (.int .i64 (n : Int)) ∧ W.cell? ⟨pb, po + 2, none⟩ = some (.slice (some ⟨b, o, none⟩) N cap)) := fun W hG => by
        have := (HR.out.below (Gr.step G.out hG.out)).pt.all
        rw [← HN.out] at this
        exact this
      have H9 := hidb (fun W (hG : Gr w9 W) => (At.below hG.out A9.out).c3)
      have HF : Hid (∀ W, Gr w9 W → ∀ c, c < N → W.cell? ⟨LV, c, none⟩ = some (.int .i64 (fih m n l c))) := fun W hG c hc => by
        have hc' : c < l.length := by rw [← HN.out]; exact hc
        have := ((At.below hG.out ALV.out).get (j := c) (by rw [fiL_len]; exact hc')).1
        rw [gl_get (by rw [fiL_len]; exact hc'), fih_gl hc'] at this
        exact this
      have HOu : Hid (∀ W, Gr w9 W → ∀ c, c < N → W.cell? ⟨OUT, c, none⟩ = some (.int .i64 (gaV m n l (gl r) c))) := fun W hG c hc => by
        have hc' : c < l.length := by rw [← HN.out]; exact hc
        have := ((At.below hG.out AOu.out).get (j := c) (by simp [gaL]; exact hc')).1
        rw [show (gaL m n l (gl r))[c]'(by simp [gaL]; exact hc') = gaV m n l (gl r) c by simp [gaL]] at this
        exact this
      have HHt : Hid (∀ W, Gr w9 W → ∀ c, c < N → W.cell? ⟨b, o + c, none⟩ = some (.int .i64 (gl l c))) := fun W hG c hc => (HHr.out.below (Gr.step G.out hG.out).out).get (by rw [← HN.out]; exact hc)
      have HRm := hidb (fun i hi W (hG : Gr w9 W) => C4.out i hi W (Gr.step G.out hG.out))
      have HTo := hidb (fun x y hx hy W (hG : Gr w9 W) => C5.out x y hx hy W (Gr.step G.out hG.out))
      have HWt := hidb (fun i num hi W (hG : Gr w9 W) => C6.out i num hi W (Gr.step G.out hG.out))
      have HWy := hidb (fun i hi W (hG : Gr w9 W) => C3.out i hi W (Gr.step G.out hG.out))
      clear A9 ALV AOu C3 C4 C5 C6 HR HHr HI HM HRl
      go_loopw [7, 13] (fun s t wr => ∃ (a : Int) (i : Nat), i ≤ N ∧ s = .int .i64 a ∧ t = .int .i64 (i : Int) ∧ Hid (a = lft m n l r i ∧ Gr w9 wr)) (fun _ t _ => N - (intOf t).toNat)
      case atStart => exact ⟨_, 0, Nat.zero_le _, rfl, rfl, hidb ⟨rfl, Gr.refl w9⟩⟩
      case round =>
        obtain ⟨a, i, hi, rfl, rfl, E⟩ := hrel
        obtain rfl := E.out.1
        have GW := hidb E.out.2
        clear E
        obtain ⟨p0, p1, p2⟩ := HPt.out _ GW.out
        by_cases h1 : ¬ i < N
        · have h1' : ¬ (i : Int) < (N : Int) := by omega
          have hz : lft m n l r i = 0 := by
            obtain rfl : i = l.length := by rw [← HN.out]; omega
            exact lft_end HOk.out
          rw [hz]
          clear h1 hz
          go_wp2
          go_ret
          exact ⟨rfl, Gr.step G.out GW.out.out⟩
        · have h1' : (i : Int) < (N : Int) := by omega
          have hiN : i < N := by omega
          have HiN := hidb hiN
          have e1 : IntKind.i64.wrap ((i : Int) + 1) = ((i + 1 : Nat) : Int) := by rw [show (i : Int) + 1 = ((i + 1 : Nat) : Int) by omega]; exact wrap_in (by have := HL.out; omega) (by have := HL.out; omega)
          have HE1 := hidb e1
          clear h1 hiN e1
          by_cases hrm : rim m n i
          · go_wp2_with fail
            refine (HRm.out i HiN.out _ GW.out).mono ?_
            rintro e w14 ⟨rfl, hB⟩
            replace GW := hidb (Gr.step GW.out hB.out)
            clear hB

            rw [decide_eq_true hrm]
            have HS : Hid (lft m n l r i - gaV m n l (gl r) i = lft m n l r (i + 1)) := (lft_rim hrm).symm
            have HB2 := hidb (lft_bd HOk.out HRr.out (i := i + 1) (by rw [← HN.out]; exact HiN.out))
            rw [← HS.out] at HB2
            obtain ⟨a2, ha2, e2⟩ : ∃ z : Int, z = lft m n l r i - gaV m n l (gl r) i ∧ IntKind.i64.wrap (lft m n l r i - gaV m n l (gl r) i) = z := ⟨_, rfl, wrap_in (by have := HB2.out; omega) (by have := HB2.out; omega)⟩
            rw [← ha2] at HS
            have cO := HOu.out _ GW.out i HiN.out
            have ixO := iindex OUT 0 N cp i HiN.out
            rw [Nat.zero_add] at ixO
            clear ha2 HB2
            generalize lft m n l r i = a1 at *
            generalize gaV m n l (gl r) i = a3 at *

            clear hrm
            obtain ⟨p0, p1, p2⟩ := HPt.out _ GW.out
            go_wp2_with fail
            refine (HWy.out i HiN.out _ GW.out).mono ?_
            rintro e w15 ⟨v, rfl, bs, k, hown, hEn, -, hB⟩
            obtain ⟨ad1, b1, cap1, rfl, hI1⟩ := own_isl2 hown
            rw [show (on (pth m n l i k)).length = k + 1 by rw [List.length_map, pth_len]]
            have HY := hidb hI1
            replace GW := hidb (Gr.step GW.out hB.out)
            have HEn := hidb hEn
            have HYl := hidb (show (on (pth m n l i k)).length = k + 1 by rw [List.length_map, pth_len])
            have HYx : Hid (∀ j, j < k + 1 → ∀ W, (Instr.indexAt 25 (.slice ad1 (k + 1) cap1) (.int .i64 (j : Int))).run Tryd.prog W = .ok (.pointer (some ⟨b1, j, none⟩)) W) := fun j hj W => by
              have := hI1.ix j (by rw [HYl.out]; exact hj) W
              rw [HYl.out, Nat.zero_add] at this
              exact this
            have HYc : Hid (∀ W, Gr w15 W → ∀ j, j < k + 1 → W.cell? ⟨b1, j, none⟩ = some (.int .i64 (itw m n l j i : Int))) := fun W hG j hj => by
              have := (HY.out.below hG.out).gcell (k := j) (by rw [HYl.out]; exact hj)
              rw [Nat.zero_add, pth_gl hj] at this
              exact this
            have HKb : Hid (k ≤ 100) := by
              show _ ≤ _
              exact Nat.le_trans (Nat.le_of_not_lt (fun hlt => HEn.out.2 _ hlt (itw_stop HOk.out (by rw [← HN.out]; exact HiN.out)))) (by have := HL.out; have := HN.out; omega)
            clear hB hown hI1 hEn p0 p1 p2 HY cO ixO e2
            have GY := hidb (Gr.refl w15)
            generalize hwv : w15 = wv
            replace GW := hidb (show Gr w9 wv by rw [← hwv]; exact GW.out)
            replace GY := hidb (show Gr w15 wv by rw [← hwv]; exact GY.out)
            clear hwv
            have x0 : ∀ W, (Instr.indexAt 25 (.slice ad1 (k + 1) cap1) (.int .i64 0)).run Tryd.prog W = .ok (.pointer (some ⟨b1, 0, none⟩)) W := HYx.out 0 (by omega)
            have c0 : wv.cell? ⟨b1, 0, none⟩ = some (.int .i64 (i : Int)) := HYc.out _ GY.out 0 (by omega)
            have xk := HYx.out k (by omega)
            have ck := HYc.out _ GY.out k (by omega)
            have ek : IntKind.i64.wrap (((k + 1 : Nat) : Int) - 1) = (k : Int) := by rw [show ((k + 1 : Nat) : Int) - 1 = (k : Int) by omega]; exact wrap_in (by have := HKb.out; omega) (by have := HKb.out; omega)
            have ek' : IntKind.i64.wrap ((k : Int) + 1 - 1) = (k : Int) := by rw [show (k : Int) + 1 - 1 = (k : Int) by omega]; exact wrap_in (by have := HKb.out; omega) (by have := HKb.out; omega)
            have ek3 : IntKind.i64.wrap (k : Int) = (k : Int) := wrap_in (by have := HKb.out; omega) (by have := HKb.out; omega)
            have ek4 : wrap64 (k : Int) = (k : Int) := w64_in HKb.out
            have hk0 : ¬ ((k + 1 : Nat) : Int) = 0 := by omega
            have hk0' : ¬ (k : Int) + 1 = 0 := by omega
            have HLs := hidb (HRm.out (itw m n l k i) (by rw [HN.out]; exact itw_lt HOk.out (by rw [← HN.out]; exact HiN.out) k))
            rw [decide_eq_true ((tw_fix m n l HOk.out.m1 HOk.out.len (itw_lt HOk.out (by rw [← HN.out]; exact HiN.out) k)).1 HEn.out.1)] at HLs
            go_wp2_with fail
            refine (HLs.out _ GW.out).mono ?_
            rintro e w16 ⟨rfl, hB⟩
            replace GW := hidb (Gr.step GW.out hB.out)
            replace GY := hidb (Gr.step GY.out hB.out)
            clear hB x0 c0 xk ck ek ek' ek3 ek4 hk0 hk0' HLs
            go_upto_region 26 with fail
            generalize hwv : w16 = wv at *
            clear hwv
            obtain ⟨p0, p1, p2⟩ := HPt.out _ GW.out
            obtain ⟨f0, f1, f2⟩ := H9.out _ GW.out
            have cF := HF.out _ GW.out i HiN.out
            have cH := HHt.out _ GW.out i HiN.out
            have ixF := iindex LV 0 N N i HiN.out
            rw [Nat.zero_add] at ixF
            have ixH := iindex b o N cap i HiN.out
            have hge : ¬ fih m n l i < gl l i := by have := fih_ge m n l HOk.out.m1 HOk.out.len (c := i) (by rw [← HN.out]; exact HiN.out); omega
            go_quiet (fail)
            go_wp2
            clear p0 p1 p2 f0 f1 f2 cF cH hge
            generalize hwv : World.drewN wv _ = wz
            replace GW := hidb (show Gr w9 wz by rw [← hwv]; exact GW.out.drewN _)
            replace GY := hidb (show Gr w15 wz by rw [← hwv]; exact GY.out.drewN _)
            clear hwv
            go_loopw [18] (fun t wr => ∃ j : Nat, 1 ≤ j ∧ j ≤ k + 1 ∧ t = .int .i64 (j : Int) ∧ Hid (Gr w9 wr ∧ Gr w15 wr)) (fun t _ => k + 1 - (intOf t).toNat)
            case atStart => exact ⟨1, Nat.le_refl _, by omega, rfl, hidb ⟨GW.out, GY.out⟩⟩
            case round =>
              clear GW GY
              obtain ⟨j, hj1, hj2, rfl, E⟩ := hrel
              have GW := hidb E.out.1
              have GY := hidb E.out.2
              clear E
              by_cases h2 : j < k + 1
              · have h2' : (j : Int) < ((k + 1 : Nat) : Int) := by omega
                have h2'' : (j : Int) < (k : Int) + 1 := by omega
                obtain ⟨q, rfl⟩ : ∃ q, j = q + 1 := ⟨j - 1, by omega⟩
                obtain ⟨jI, hjI⟩ : ∃ z : Int, z = ((q + 1 : Nat) : Int) := ⟨_, rfl⟩
                rw [← hjI] at h2' h2'' ⊢
                have ej : IntKind.i64.wrap (jI - 1) = (q : Int) := by rw [hjI, show ((q + 1 : Nat) : Int) - 1 = (q : Int) by omega]; exact wrap_in (by have := HKb.out; omega) (by have := HKb.out; omega)
                have ej2 : IntKind.i64.wrap (jI + 1) = ((q + 1 + 1 : Nat) : Int) := by rw [hjI, show ((q + 1 : Nat) : Int) + 1 = ((q + 1 + 1 : Nat) : Int) by omega]; exact wrap_in (by have := HKb.out; omega) (by have := HKb.out; omega)
                have HJI := hidb hjI
                have hxl : itw m n l q i < l.length := itw_lt HOk.out (by rw [← HN.out]; exact HiN.out) q
                have hnf : ¬ tw m n l (itw m n l q i) = itw m n l q i := HEn.out.2 q (by omega)
                have hyx : itw m n l (q + 1) i = tw m n l (itw m n l q i) := itw_succ m n l q i
                have hyl := tw_lt m n l HOk.out.m1 HOk.out.len hxl
                have htc := tw_tch HOk.out hxl hnf
                have HTc := hidb (fun W (hG : Gr w9 W) => HTo.out (itw m n l q i) (tw m n l (itw m n l q i)) (by rw [HN.out]; exact hxl) (by rw [HN.out]; exact hyl) W hG)
                rw [decide_eq_true htc] at HTc
                have xq := HYx.out q (by omega)
                have xj := HYx.out (q + 1) (by omega)
                rw [← hjI] at xj
                have HYq : Hid (∀ W, Gr w15 W → W.cell? ⟨b1, q, none⟩ = some (.int .i64 (itw m n l q i : Int)) ∧ W.cell? ⟨b1, q + 1, none⟩ = some (.int .i64 (tw m n l (itw m n l q i) : Int))) := fun W hG => ⟨HYc.out W hG q (by omega), by rw [← hyx]; exact HYc.out W hG (q + 1) (by omega)⟩
                have HFx : Hid (∀ W, Gr w9 W → W.cell? ⟨LV, itw m n l q i, none⟩ = some (.int .i64 (fih m n l (itw m n l q i))) ∧ W.cell? ⟨LV, tw m n l (itw m n l q i), none⟩ = some (.int .i64 (fih m n l (tw m n l (itw m n l q i))))) := fun W hG => ⟨HF.out W hG _ (by rw [HN.out]; exact hxl), HF.out W hG _ (by rw [HN.out]; exact hyl)⟩
                have hle : ¬ fih m n l (itw m n l q i) < fih m n l (tw m n l (itw m n l q i)) := by have := fih_tw m n l HOk.out.m1 HOk.out.len hxl; omega
                have ixX := iindex LV 0 N N (itw m n l q i) (by rw [HN.out]; exact hxl)
                have ixY := iindex LV 0 N N (tw m n l (itw m n l q i)) (by rw [HN.out]; exact hyl)
                rw [Nat.zero_add] at ixX ixY
                have HJ2 := hidb (show q + 1 + 1 ≤ k + 1 by omega)
                generalize fih m n l (itw m n l q i) = fx at *
                generalize fih m n l (tw m n l (itw m n l q i)) = fy at *
                generalize tw m n l (itw m n l q i) = y at *
                generalize itw m n l q i = x at *
                clear hxl hnf hyx hyl htc hjI h2 hj1 hj2
                go_upto_region 31 with fail
                have PW := GW.out
                have PY := GY.out
                go_cut [19] from 185 to 195 (fun s19 wq => s19 = .bool true ∧ Hid (Gr w9 wq ∧ Gr w15 wq))
                case first =>
                  go_region_held (fun w' => w'.cell? ⟨b1, q, none⟩ = some (.int .i64 (x : Int)) ∧ w'.cell? ⟨b1, q + 1, none⟩ = some (.int .i64 (y : Int)))
                    (with_reducible first | exact HYq.out _ PY | exact HYq.out _ PY.drew)
                    ((go_at_call 27; (with_reducible first | refine (HTc.out _ PW).mono ?_ | refine (HTc.out _ PW.drew).mono ?_); rintro e w17 ⟨rfl, hB17⟩; (with_reducible first | replace PW := Gr.step PW hB17.out | replace PW := Gr.step PW.drew hB17.out); (with_reducible first | replace PY := Gr.step PY hB17.out | replace PY := Gr.step PY.drew hB17.out)))
                  all_goals
                    go_wp2_with fail
                    go_meet
                    exact ⟨rfl, by with_reducible first | exact hidb ⟨PW, PY⟩ | exact hidb ⟨PW.drew, PY.drew⟩⟩
                case rest =>
                  obtain ⟨rfl, E⟩ := hcut
                  clear PW PY GW GY
                  obtain ⟨f0, f1, f2⟩ := H9.out _ E.out.1
                  obtain ⟨y0, y1⟩ := HYq.out _ E.out.2
                  obtain ⟨g0, g1⟩ := HFx.out _ E.out.1
                  go_upto_region 32 with fail
                  go_quiet (fail)
                  go_wp2
                  go_roundw
                  case rel => exact ⟨q + 1 + 1, by omega, HJ2.out, by go_num, hidb ⟨E.out.1.drewN _, E.out.2.drewN _⟩⟩
                  case measure => have := HJ2.out; have := HJI.out; simp [intOf]; omega
              · have h2' : ¬ (j : Int) < ((k + 1 : Nat) : Int) := by omega
                have h2'' : ¬ (j : Int) < (k : Int) + 1 := by omega
                clear h2 hj1 hj2
                go_upto_region 34 with fail
                obtain ⟨p0, p1, p2⟩ := HPt.out _ GW.out
                obtain ⟨f0, f1, f2⟩ := H9.out _ GW.out
                have cF := HF.out _ GW.out i HiN.out
                have cH := HHt.out _ GW.out i HiN.out
                have e1 := HE1.out
                by_cases hgt : gl l i < fih m n l i
                · go_quiet (fail)
                  go_upto_region 35 with fail
                  generalize hwv : World.drewN wr _ = wz2
                  replace GW := hidb (show Gr w9 wz2 by rw [← hwv]; exact GW.out.drewN _)
                  clear hwv p0 p1 p2 f0 f1 f2 cF cH GY
                  obtain ⟨f0, f1, f2⟩ := H9.out _ GW.out
                  have cF := HF.out _ GW.out i HiN.out
                  have HWe := hidb (HWt.out i (fih m n l i - 1) HiN.out _ GW.out)
                  have HRk : Hid (∀ x, Rch m l (fih m n l i - 1) i x → ¬ rim m n x) := fun x hx => Rch.none m n l HOk.out.m1 HOk.out.len hx (by omega)
                  obtain ⟨z1, hz1, ez⟩ : ∃ z : Int, z = fih m n l i - 1 ∧ IntKind.i64.wrap (fih m n l i - 1) = z := ⟨_, rfl, wrap_in (by have := fih_bd HOk.out (c := i) (by rw [← HN.out]; exact HiN.out); omega) (by have := HFb.out i; omega)⟩
                  rw [← hz1] at HWe HRk
                  clear hz1
                  go_wp2_with fail
                  refine HWe.out.mono ?_
                  rintro e w18 ⟨B, rfl, L, hWS⟩
                  have HWS := hidb (show WS m n l z1 i _ w18 B L from hWS)
                  have GL := hidb (Gr.step GW.out hWS.gr.out)
                  clear hWS f0 f1 f2 cF HWe GW hgt
                  go_wp2
                  go_loopw [21] (fun t wr => ∃ x : Nat, x ≤ N ∧ t = .int .i64 (x : Int) ∧ Hid (Gr w18 wr)) (fun t _ => N - (intOf t).toNat)
                  case atStart => exact ⟨0, Nat.zero_le _, rfl, hidb (Gr.refl _)⟩
                  case round =>
                    obtain ⟨x, hx, rfl, E⟩ := hrel
                    by_cases h3 : x < N
                    · have h3' : (x : Int) < (N : Int) := by omega
                      have HxN := hidb h3
                      have ex : IntKind.i64.wrap ((x : Int) + 1) = ((x + 1 : Nat) : Int) := by rw [show (x : Int) + 1 = ((x + 1 : Nat) : Int) by omega]; exact wrap_in (by have := HL.out; omega) (by have := HL.out; omega)
                      have ixb := bindex B N N x h3
                      have HRx := hidb (HRm.out x h3 _ (Gr.step GL.out E.out.out))
                      clear h3
                      go_wp2_with fail
                      refine HRx.out.mono ?_
                      rintro e w19 ⟨rfl, hB⟩
                      have E2 := hidb (Gr.step E.out hB.out)
                      obtain ⟨cb, fb⟩ := (At.below E2.out.out HWS.out.d).getb (j := x) (by rw [HWS.out.len, ← HN.out]; exact HxN.out)
                      clear hB HRx
                      cases hbx : glb L x with
                      | false =>
                        rw [hbx] at cb
                        clear hbx
                        generalize decide (rim m n x) = rx
                        go_wp2
                        go_roundw
                        case rel => exact ⟨x + 1, HxN.out, by go_num, E2⟩
                        case measure => have := HxN.out; simp [intOf]; omega
                      | true =>
                        rw [decide_eq_false (HRk.out x (HWS.out.ok x hbx))]
                        rw [hbx] at cb
                        clear hbx
                        go_wp2
                        go_roundw
                        case rel => exact ⟨x + 1, HxN.out, by go_num, E2⟩
                        case measure => have := HxN.out; simp [intOf]; omega
                    · have h3' : ¬ (x : Int) < (N : Int) := by omega
                      clear h3
                      go_wp2
                      go_roundw
                      case rel => exact ⟨a2, i + 1, HiN.out, rfl, by go_num, hidb ⟨HS.out, Gr.step GL.out E.out.out⟩⟩
                      case measure => have := HiN.out; simp [intOf]; omega
                · go_quiet (fail)
                  go_wp2
                  go_roundw
                  case rel => exact ⟨a2, i + 1, HiN.out, rfl, by go_num, hidb ⟨HS.out, GW.out.drewN _⟩⟩
                  case measure => have := HiN.out; simp [intOf]; omega
          · go_wp2_with fail
            refine (HRm.out i HiN.out _ GW.out).mono ?_
            rintro e w14 ⟨rfl, hB⟩
            replace GW := hidb (Gr.step GW.out hB.out)
            clear hB

            rw [decide_eq_false hrm]
            have HS : Hid (lft m n l r i = lft m n l r (i + 1)) := (lft_not hrm).symm
            generalize lft m n l r i = a2 at *

            clear hrm
            obtain ⟨p0, p1, p2⟩ := HPt.out _ GW.out
            go_wp2_with fail
            refine (HWy.out i HiN.out _ GW.out).mono ?_
            rintro e w15 ⟨v, rfl, bs, k, hown, hEn, -, hB⟩
            obtain ⟨ad1, b1, cap1, rfl, hI1⟩ := own_isl2 hown
            rw [show (on (pth m n l i k)).length = k + 1 by rw [List.length_map, pth_len]]
            have HY := hidb hI1
            replace GW := hidb (Gr.step GW.out hB.out)
            have HEn := hidb hEn
            have HYl := hidb (show (on (pth m n l i k)).length = k + 1 by rw [List.length_map, pth_len])
            have HYx : Hid (∀ j, j < k + 1 → ∀ W, (Instr.indexAt 25 (.slice ad1 (k + 1) cap1) (.int .i64 (j : Int))).run Tryd.prog W = .ok (.pointer (some ⟨b1, j, none⟩)) W) := fun j hj W => by
              have := hI1.ix j (by rw [HYl.out]; exact hj) W
              rw [HYl.out, Nat.zero_add] at this
              exact this
            have HYc : Hid (∀ W, Gr w15 W → ∀ j, j < k + 1 → W.cell? ⟨b1, j, none⟩ = some (.int .i64 (itw m n l j i : Int))) := fun W hG j hj => by
              have := (HY.out.below hG.out).gcell (k := j) (by rw [HYl.out]; exact hj)
              rw [Nat.zero_add, pth_gl hj] at this
              exact this
            have HKb : Hid (k ≤ 100) := by
              show _ ≤ _
              exact Nat.le_trans (Nat.le_of_not_lt (fun hlt => HEn.out.2 _ hlt (itw_stop HOk.out (by rw [← HN.out]; exact HiN.out)))) (by have := HL.out; have := HN.out; omega)
            clear hB hown hI1 hEn p0 p1 p2 HY
            have GY := hidb (Gr.refl w15)
            generalize hwv : w15 = wv
            replace GW := hidb (show Gr w9 wv by rw [← hwv]; exact GW.out)
            replace GY := hidb (show Gr w15 wv by rw [← hwv]; exact GY.out)
            clear hwv
            have x0 : ∀ W, (Instr.indexAt 25 (.slice ad1 (k + 1) cap1) (.int .i64 0)).run Tryd.prog W = .ok (.pointer (some ⟨b1, 0, none⟩)) W := HYx.out 0 (by omega)
            have c0 : wv.cell? ⟨b1, 0, none⟩ = some (.int .i64 (i : Int)) := HYc.out _ GY.out 0 (by omega)
            have xk := HYx.out k (by omega)
            have ck := HYc.out _ GY.out k (by omega)
            have ek : IntKind.i64.wrap (((k + 1 : Nat) : Int) - 1) = (k : Int) := by rw [show ((k + 1 : Nat) : Int) - 1 = (k : Int) by omega]; exact wrap_in (by have := HKb.out; omega) (by have := HKb.out; omega)
            have ek' : IntKind.i64.wrap ((k : Int) + 1 - 1) = (k : Int) := by rw [show (k : Int) + 1 - 1 = (k : Int) by omega]; exact wrap_in (by have := HKb.out; omega) (by have := HKb.out; omega)
            have ek3 : IntKind.i64.wrap (k : Int) = (k : Int) := wrap_in (by have := HKb.out; omega) (by have := HKb.out; omega)
            have ek4 : wrap64 (k : Int) = (k : Int) := w64_in HKb.out
            have hk0 : ¬ ((k + 1 : Nat) : Int) = 0 := by omega
            have hk0' : ¬ (k : Int) + 1 = 0 := by omega
            have HLs := hidb (HRm.out (itw m n l k i) (by rw [HN.out]; exact itw_lt HOk.out (by rw [← HN.out]; exact HiN.out) k))
            rw [decide_eq_true ((tw_fix m n l HOk.out.m1 HOk.out.len (itw_lt HOk.out (by rw [← HN.out]; exact HiN.out) k)).1 HEn.out.1)] at HLs
            go_wp2_with fail
            refine (HLs.out _ GW.out).mono ?_
            rintro e w16 ⟨rfl, hB⟩
            replace GW := hidb (Gr.step GW.out hB.out)
            replace GY := hidb (Gr.step GY.out hB.out)
            clear hB x0 c0 xk ck ek ek' ek3 ek4 hk0 hk0' HLs
            go_upto_region 26 with fail
            generalize hwv : w16 = wv at *
            clear hwv
            obtain ⟨p0, p1, p2⟩ := HPt.out _ GW.out
            obtain ⟨f0, f1, f2⟩ := H9.out _ GW.out
            have cF := HF.out _ GW.out i HiN.out
            have cH := HHt.out _ GW.out i HiN.out
            have ixF := iindex LV 0 N N i HiN.out
            rw [Nat.zero_add] at ixF
            have ixH := iindex b o N cap i HiN.out
            have hge : ¬ fih m n l i < gl l i := by have := fih_ge m n l HOk.out.m1 HOk.out.len (c := i) (by rw [← HN.out]; exact HiN.out); omega
            go_quiet (fail)
            go_wp2
            clear p0 p1 p2 f0 f1 f2 cF cH hge
            generalize hwv : World.drewN wv _ = wz
            replace GW := hidb (show Gr w9 wz by rw [← hwv]; exact GW.out.drewN _)
            replace GY := hidb (show Gr w15 wz by rw [← hwv]; exact GY.out.drewN _)
            clear hwv
            go_loopw [18] (fun t wr => ∃ j : Nat, 1 ≤ j ∧ j ≤ k + 1 ∧ t = .int .i64 (j : Int) ∧ Hid (Gr w9 wr ∧ Gr w15 wr)) (fun t _ => k + 1 - (intOf t).toNat)
            case atStart => exact ⟨1, Nat.le_refl _, by omega, rfl, hidb ⟨GW.out, GY.out⟩⟩
            case round =>
              clear GW GY
              obtain ⟨j, hj1, hj2, rfl, E⟩ := hrel
              have GW := hidb E.out.1
              have GY := hidb E.out.2
              clear E
              by_cases h2 : j < k + 1
              · have h2' : (j : Int) < ((k + 1 : Nat) : Int) := by omega
                have h2'' : (j : Int) < (k : Int) + 1 := by omega
                obtain ⟨q, rfl⟩ : ∃ q, j = q + 1 := ⟨j - 1, by omega⟩
                obtain ⟨jI, hjI⟩ : ∃ z : Int, z = ((q + 1 : Nat) : Int) := ⟨_, rfl⟩
                rw [← hjI] at h2' h2'' ⊢
                have ej : IntKind.i64.wrap (jI - 1) = (q : Int) := by rw [hjI, show ((q + 1 : Nat) : Int) - 1 = (q : Int) by omega]; exact wrap_in (by have := HKb.out; omega) (by have := HKb.out; omega)
                have ej2 : IntKind.i64.wrap (jI + 1) = ((q + 1 + 1 : Nat) : Int) := by rw [hjI, show ((q + 1 : Nat) : Int) + 1 = ((q + 1 + 1 : Nat) : Int) by omega]; exact wrap_in (by have := HKb.out; omega) (by have := HKb.out; omega)
                have HJI := hidb hjI
                have hxl : itw m n l q i < l.length := itw_lt HOk.out (by rw [← HN.out]; exact HiN.out) q
                have hnf : ¬ tw m n l (itw m n l q i) = itw m n l q i := HEn.out.2 q (by omega)
                have hyx : itw m n l (q + 1) i = tw m n l (itw m n l q i) := itw_succ m n l q i
                have hyl := tw_lt m n l HOk.out.m1 HOk.out.len hxl
                have htc := tw_tch HOk.out hxl hnf
                have HTc := hidb (fun W (hG : Gr w9 W) => HTo.out (itw m n l q i) (tw m n l (itw m n l q i)) (by rw [HN.out]; exact hxl) (by rw [HN.out]; exact hyl) W hG)
                rw [decide_eq_true htc] at HTc
                have xq := HYx.out q (by omega)
                have xj := HYx.out (q + 1) (by omega)
                rw [← hjI] at xj
                have HYq : Hid (∀ W, Gr w15 W → W.cell? ⟨b1, q, none⟩ = some (.int .i64 (itw m n l q i : Int)) ∧ W.cell? ⟨b1, q + 1, none⟩ = some (.int .i64 (tw m n l (itw m n l q i) : Int))) := fun W hG => ⟨HYc.out W hG q (by omega), by rw [← hyx]; exact HYc.out W hG (q + 1) (by omega)⟩
                have HFx : Hid (∀ W, Gr w9 W → W.cell? ⟨LV, itw m n l q i, none⟩ = some (.int .i64 (fih m n l (itw m n l q i))) ∧ W.cell? ⟨LV, tw m n l (itw m n l q i), none⟩ = some (.int .i64 (fih m n l (tw m n l (itw m n l q i))))) := fun W hG => ⟨HF.out W hG _ (by rw [HN.out]; exact hxl), HF.out W hG _ (by rw [HN.out]; exact hyl)⟩
                have hle : ¬ fih m n l (itw m n l q i) < fih m n l (tw m n l (itw m n l q i)) := by have := fih_tw m n l HOk.out.m1 HOk.out.len hxl; omega
                have ixX := iindex LV 0 N N (itw m n l q i) (by rw [HN.out]; exact hxl)
                have ixY := iindex LV 0 N N (tw m n l (itw m n l q i)) (by rw [HN.out]; exact hyl)
                rw [Nat.zero_add] at ixX ixY
                have HJ2 := hidb (show q + 1 + 1 ≤ k + 1 by omega)
                generalize fih m n l (itw m n l q i) = fx at *
                generalize fih m n l (tw m n l (itw m n l q i)) = fy at *
                generalize tw m n l (itw m n l q i) = y at *
                generalize itw m n l q i = x at *
                clear hxl hnf hyx hyl htc hjI h2 hj1 hj2
                go_upto_region 31 with fail
                have PW := GW.out
                have PY := GY.out
                go_cut [19] from 185 to 195 (fun s19 wq => s19 = .bool true ∧ Hid (Gr w9 wq ∧ Gr w15 wq))
                case first =>
                  go_region_held (fun w' => w'.cell? ⟨b1, q, none⟩ = some (.int .i64 (x : Int)) ∧ w'.cell? ⟨b1, q + 1, none⟩ = some (.int .i64 (y : Int)))
                    (with_reducible first | exact HYq.out _ PY | exact HYq.out _ PY.drew)
                    ((go_at_call 27; (with_reducible first | refine (HTc.out _ PW).mono ?_ | refine (HTc.out _ PW.drew).mono ?_); rintro e w17 ⟨rfl, hB17⟩; (with_reducible first | replace PW := Gr.step PW hB17.out | replace PW := Gr.step PW.drew hB17.out); (with_reducible first | replace PY := Gr.step PY hB17.out | replace PY := Gr.step PY.drew hB17.out)))
                  all_goals
                    go_wp2_with fail
                    go_meet
                    exact ⟨rfl, by with_reducible first | exact hidb ⟨PW, PY⟩ | exact hidb ⟨PW.drew, PY.drew⟩⟩
                case rest =>
                  obtain ⟨rfl, E⟩ := hcut
                  clear PW PY GW GY
                  obtain ⟨f0, f1, f2⟩ := H9.out _ E.out.1
                  obtain ⟨y0, y1⟩ := HYq.out _ E.out.2
                  obtain ⟨g0, g1⟩ := HFx.out _ E.out.1
                  go_upto_region 32 with fail
                  go_quiet (fail)
                  go_wp2
                  go_roundw
                  case rel => exact ⟨q + 1 + 1, by omega, HJ2.out, by go_num, hidb ⟨E.out.1.drewN _, E.out.2.drewN _⟩⟩
                  case measure => have := HJ2.out; have := HJI.out; simp [intOf]; omega
              · have h2' : ¬ (j : Int) < ((k + 1 : Nat) : Int) := by omega
                have h2'' : ¬ (j : Int) < (k : Int) + 1 := by omega
                clear h2 hj1 hj2
                go_upto_region 34 with fail
                obtain ⟨p0, p1, p2⟩ := HPt.out _ GW.out
                obtain ⟨f0, f1, f2⟩ := H9.out _ GW.out
                have cF := HF.out _ GW.out i HiN.out
                have cH := HHt.out _ GW.out i HiN.out
                have e1 := HE1.out
                by_cases hgt : gl l i < fih m n l i
                · go_quiet (fail)
                  go_upto_region 35 with fail
                  generalize hwv : World.drewN wr _ = wz2
                  replace GW := hidb (show Gr w9 wz2 by rw [← hwv]; exact GW.out.drewN _)
                  clear hwv p0 p1 p2 f0 f1 f2 cF cH GY
                  obtain ⟨f0, f1, f2⟩ := H9.out _ GW.out
                  have cF := HF.out _ GW.out i HiN.out
                  have HWe := hidb (HWt.out i (fih m n l i - 1) HiN.out _ GW.out)
                  have HRk : Hid (∀ x, Rch m l (fih m n l i - 1) i x → ¬ rim m n x) := fun x hx => Rch.none m n l HOk.out.m1 HOk.out.len hx (by omega)
                  obtain ⟨z1, hz1, ez⟩ : ∃ z : Int, z = fih m n l i - 1 ∧ IntKind.i64.wrap (fih m n l i - 1) = z := ⟨_, rfl, wrap_in (by have := fih_bd HOk.out (c := i) (by rw [← HN.out]; exact HiN.out); omega) (by have := HFb.out i; omega)⟩
                  rw [← hz1] at HWe HRk
                  clear hz1
                  go_wp2_with fail
                  refine HWe.out.mono ?_
                  rintro e w18 ⟨B, rfl, L, hWS⟩
                  have HWS := hidb (show WS m n l z1 i _ w18 B L from hWS)
                  have GL := hidb (Gr.step GW.out hWS.gr.out)
                  clear hWS f0 f1 f2 cF HWe GW hgt
                  go_wp2
                  go_loopw [21] (fun t wr => ∃ x : Nat, x ≤ N ∧ t = .int .i64 (x : Int) ∧ Hid (Gr w18 wr)) (fun t _ => N - (intOf t).toNat)
                  case atStart => exact ⟨0, Nat.zero_le _, rfl, hidb (Gr.refl _)⟩
                  case round =>
                    obtain ⟨x, hx, rfl, E⟩ := hrel
                    by_cases h3 : x < N
                    · have h3' : (x : Int) < (N : Int) := by omega
                      have HxN := hidb h3
                      have ex : IntKind.i64.wrap ((x : Int) + 1) = ((x + 1 : Nat) : Int) := by rw [show (x : Int) + 1 = ((x + 1 : Nat) : Int) by omega]; exact wrap_in (by have := HL.out; omega) (by have := HL.out; omega)
                      have ixb := bindex B N N x h3
                      have HRx := hidb (HRm.out x h3 _ (Gr.step GL.out E.out.out))
                      clear h3
                      go_wp2_with fail
                      refine HRx.out.mono ?_
                      rintro e w19 ⟨rfl, hB⟩
                      have E2 := hidb (Gr.step E.out hB.out)
                      obtain ⟨cb, fb⟩ := (At.below E2.out.out HWS.out.d).getb (j := x) (by rw [HWS.out.len, ← HN.out]; exact HxN.out)
                      clear hB HRx
                      cases hbx : glb L x with
                      | false =>
                        rw [hbx] at cb
                        clear hbx
                        generalize decide (rim m n x) = rx
                        go_wp2
                        go_roundw
                        case rel => exact ⟨x + 1, HxN.out, by go_num, E2⟩
                        case measure => have := HxN.out; simp [intOf]; omega
                      | true =>
                        rw [decide_eq_false (HRk.out x (HWS.out.ok x hbx))]
                        rw [hbx] at cb
                        clear hbx
                        go_wp2
                        go_roundw
                        case rel => exact ⟨x + 1, HxN.out, by go_num, E2⟩
                        case measure => have := HxN.out; simp [intOf]; omega
                    · have h3' : ¬ (x : Int) < (N : Int) := by omega
                      clear h3
                      go_wp2
                      go_roundw
                      case rel => exact ⟨a2, i + 1, HiN.out, rfl, by go_num, hidb ⟨HS.out, Gr.step GL.out E.out.out⟩⟩
                      case measure => have := HiN.out; simp [intOf]; omega
                · go_quiet (fail)
                  go_wp2
                  go_roundw
                  case rel => exact ⟨a2, i + 1, HiN.out, rfl, by go_num, hidb ⟨HS.out, GW.out.drewN _⟩⟩
                  case measure => have := HiN.out; simp [intOf]; omega
end Go.Proofs.YtbkggcfogmgmmaaDoor
