/-
  mercatorref4.SeesOf.
-/
import Derived.Test.YtpdiefmmenfpaaaDoorQSnF
namespace Go.Proofs.YtpdiefmmenfpaaaDoor
open Go.RowKit
attribute [local go_sem ↓] Go.wp_at_zero Go.wp_at_succ

/-- Seen, if it is at each stop that is told once. -/
theorem see_once (l : List Int) (m n c0 r0 c1 r1 : Nat) (x y : Int) : frK l m n c0 r0 c1 r1 x y ↔ ∀ q ∈ stL (sts c0 r0 c1 r1), gK l m n c0 r0 c1 r1 q ≤ x * ((q.2 : Int) - q.1) + y * q.1 := by
  obtain ⟨k1, k2, -⟩ := stL_in _ (sts c0 r0 c1 r1) rfl
  have e : ∀ q : Nat × Nat, lkK l m n c0 r0 c1 r1 x y q ≤ 0 ↔ gK l m n c0 r0 c1 r1 q ≤ x * ((q.2 : Int) - q.1) + y * q.1 := fun q => by
    unfold lkK
    rw [Int.mul_comm ((q.2 : Int) - q.1) x, Int.mul_comm (q.1 : Int) y]
    omega
  constructor
  · intro h q hq
    exact (e q).1 (h q (k1 q hq))
  · intro h p hp
    obtain ⟨q, hq, eq⟩ := k2 p hp
    have hp2 := sts_in hp
    have hq2 := sts_in (k1 q hq)
    have h1 := lkK_same l m n c0 r0 c1 r1 x y (p := p) (q := q) (by omega) (by omega) eq
    have h2 := (e q).2 (h q hq)
    have h3 : lkK l m n c0 r0 c1 r1 x y q * (p.2 : Int) ≤ 0 := Int.mul_nonpos_of_nonpos_of_nonneg h2 (by omega)
    rw [h1] at h3
    refine Classical.byContradiction fun k => ?_
    have : 0 < lkK l m n c0 r0 c1 r1 x y p * (q.2 : Int) := Int.mul_pos (by omega) (by omega)
    omega
set_option maxRecDepth 4000 in
set_option maxHeartbeats 16000000 in
theorem seesOf_any {pb po b o cap m n fN tN : Nat} {l : List Int} (f t e u : Int) (hf : f = (fN : Int)) (ht : t = (tN : Int)) (w : World) (hp : PtR w pb po m n (.slice (some ⟨b, o, none⟩) l.length cap)) (h : Rs w b o cap l) (ok : Ok l m n) (hfN : fN < l.length) (htN : tN < l.length) (he : 0 ≤ e ∧ e ≤ 1048576) (hu : 0 ≤ u ∧ u ≤ 1048576) : Calls Tryd.prog 24 #[.pointer (some ⟨pb, po, none⟩), loV f t e u] w fun ee w' => ee = .returned (.bool (decide (seeP l m n fN tN e u))) ∧ Gr w w' := by
  have hlen := ok.len_le
  have CS := hidb (fun (W : World) (hG : Gr w W) => stopsOf_any f t e u hf ht W (hp.below hG.out) (h.below hG.out) ok hfN htN)
  have hon := see_once l m n (fN % m) (fN / m) (tN % m) (tN / m) (gl l fN + e) (gl l tN + u)
  obtain ⟨bb, hbb⟩ : ∃ z, z = decide (seeP l m n fN tN e u) := ⟨_, rfl⟩
  rw [← hbb]
  have hbx := hiE_add (ok.hi fN) he.1 he.2
  have hby := hiE_add (ok.hi tN) hu.1 hu.2
  have hm2 := ok.m2
  have hn2 := ok.n2
  obtain ⟨d1', d2'⟩ := ok.div hfN
  obtain ⟨d3', d4'⟩ := ok.div htN
  have hst := stL_in _ (sts (fN % m) (fN / m) (tN % m) (tN / m)) rfl
  have HBd : Hid (∀ q ∈ stL (sts (fN % m) (fN / m) (tN % m) (tN / m)), ((1 ≤ q.1 ∧ q.1 < q.2) ∧ q.2 ≤ 254) ∧ -1048576 * (q.2 : Int) ≤ gK l m n (fN % m) (fN / m) (tN % m) (tN / m) q ∧ gK l m n (fN % m) (fN / m) (tN % m) (tN / m) q ≤ 1048576 * (q.2 : Int)) := fun q hq => by
    have k := hst.1 q hq
    exact ⟨⟨sts_in k, sts_le k (by omega) (by omega) (by omega) (by omega)⟩, gP_bd (by have := sts_in k; omega) ok.hi⟩
  have HLl : Hid ((stL (sts (fN % m) (fN / m) (tN % m) (tN / m))).length ≤ 2000) := by
    show _ ≤ _
    have k1 := hst.2.2
    have k2 := pfS_len (c0 := fN % m) (c1 := tN % m) (r0 := fN / m) (r1 := tN / m) (by omega) (by omega) (by omega) (by omega) 3
    rw [pfS_3] at k2
    omega
  have HTr : Hid ((∀ q ∈ stL (sts (fN % m) (fN / m) (tN % m) (tN / m)), gK l m n (fN % m) (fN / m) (tN % m) (tN / m) q ≤ (gl l fN + e) * ((q.2 : Int) - q.1) + (gl l tN + u) * q.1) → bb = true) := fun k => by rw [hbb]; exact decide_eq_true (hon.2 k)
  have HFa : Hid ((∃ q ∈ stL (sts (fN % m) (fN / m) (tN % m) (tN / m)), (gl l fN + e) * ((q.2 : Int) - q.1) + (gl l tN + u) * q.1 < gK l m n (fN % m) (fN / m) (tN % m) (tN / m) q) → bb = false) := fun ⟨q, hq, k⟩ => by rw [hbb]; exact decide_eq_false fun z => by have := hon.1 z q hq; omega
  generalize stL (sts (fN % m) (fN / m) (tN % m) (tN / m)) = L at *
  generalize gK l m n (fN % m) (fN / m) (tN % m) (tN / m) = G at *
  have HRf := hidb (fun (W : World) (hG : Gr w W) => (h.below hG.out).get hfN)
  have HRt := hidb (fun (W : World) (hG : Gr w W) => (h.below hG.out).get htN)
  have IF := iindex b o l.length cap fN hfN
  have IT := iindex b o l.length cap tN htN
  rw [← hf] at IF
  rw [← ht] at IT
  have bf := ok.hi fN
  have bt := ok.hi tN
  unfold hiI at bf bt
  obtain ⟨x0, hx0⟩ : ∃ z, z = gl l fN := ⟨_, rfl⟩
  obtain ⟨y0, hy0⟩ : ∃ z, z = gl l tN := ⟨_, rfl⟩
  rw [← hx0] at HRf hbx HTr HFa bf
  rw [← hy0] at HRt hby HTr HFa bt
  obtain ⟨x, hx, e1⟩ : ∃ z : Int, z = x0 + e ∧ IntKind.i64.wrap (x0 + e) = z := ⟨_, rfl, wrap_in (by omega) (by omega)⟩
  obtain ⟨y, hy, e2⟩ : ∃ z : Int, z = y0 + u ∧ IntKind.i64.wrap (y0 + u) = z := ⟨_, rfl, wrap_in (by omega) (by omega)⟩
  rw [← hx] at hbx HTr HFa
  rw [← hy] at hby HTr HFa
  have HX := hidb (show hiE x ∧ hiE y from ⟨hbx, hby⟩)
  have E0 : Hid (MF w (w.alloc (.cells #[.int .i64 f, .int .i64 t, .int .i64 e, .int .i64 u] 47)) pb po (.int .i64 (m : Int)) (.int .i64 (n : Int)) (.slice (some ⟨b, o, none⟩) l.length cap) [.int .i64 f, .int .i64 t, .int .i64 e, .int .i64 u]) := by
    have hB := (Gr.refl w).alloc (.cells #[.int .i64 f, .int .i64 t, .int .i64 e, .int .i64 u] 47)
    exact ⟨At.new4 _ _ _ _ _ _, (hp.below hB.out).all, hB, lt_of_cell hp.c0⟩
  obtain ⟨LN, hLN⟩ : ∃ z, z = l.length := ⟨_, rfl⟩
  rw [← hLN] at IF IT E0
  clear hlen hbx hby hm2 hn2 d1' d2' d3' d4' hst bf bt hx0 hy0 hx hy hLN hf ht hp h ok hfN htN he hu hon hbb
  show Calls Tryd.prog 24 #[_, .agg #[.int .i64 f, .int .i64 t, .int .i64 e, .int .i64 u]] w _
  go_enter Tryd.func24, Tryd.ntmps24
  obtain ⟨k0, k1, k2, k3⟩ := E0.out.a0.c4
  go_wp2_with fail
  refine (CS.out _ E0.out.gr).mono ?_
  rintro ee w1 ⟨v, rfl, hO, hB⟩
  obtain ⟨ad, vb, vc, rfl, hT⟩ := hO.sl
  replace E0 := hidb (E0.out.below hB.out)
  have HS := hidb (fun (W : World) (hG : Gr w1 W) => hT.below hG.out)
  have HIx := hidb hT.ix
  obtain ⟨M, hM⟩ : ∃ z, z = L.length := ⟨_, rfl⟩
  have HM := hidb hM
  rw [← hM] at HIx HLl ⊢
  have HE0 := hidb (fun (W : World) (hG : Gr w1 W) => E0.out.below hG.out)
  clear hB hO hT hM k0 k1 k2 k3 CS
  go_upto_region 2 with fail
  obtain ⟨⟨p0, p1, p2⟩, k0, k1, k2, k3⟩ := E0.out.all
  have cf := HRf.out _ E0.out.gr
  go_quiet (fail)
  go_upto_region 3 with fail
  clear p0 p1 p2 k0 k1 k2 k3 cf
  generalize hw2 : World.drewN _ _ = w2
  have G2 : Hid (Gr w1 w2) := by show Gr w1 w2; rw [← hw2]; exact (Gr.refl _).drewN _
  clear hw2
  have E2 := HE0.out _ G2.out
  obtain ⟨⟨p0, p1, p2⟩, k0, k1, k2, k3⟩ := E2.all
  have cf := HRt.out _ E2.gr
  clear E2
  go_quiet (fail)
  go_upto_region 4 with fail
  clear p0 p1 p2 k0 k1 k2 k3 cf
  generalize hw3 : World.drewN _ _ = w3
  replace G2 : Hid (Gr w1 w3) := by show Gr w1 w3; rw [← hw3]; exact G2.out.drewN _
  clear hw3
  go_wp2
  go_loopw [8] (fun tt wr => ∃ (i : Nat), i ≤ M ∧ tt = .int .i64 (i : Int) ∧ Hid (Gr w1 wr) ∧ Hid (∀ j, j < i → G (tx L j) ≤ x * (((tx L j).2 : Int) - (tx L j).1) + y * (tx L j).1)) (fun tt _ => M - (intOf tt).toNat)
  case atStart => exact ⟨0, Nat.zero_le _, rfl, G2, hidb (fun j hj => by omega)⟩
  case round =>
    clear G2
    obtain ⟨i, hi, rfl, G3, HQ⟩ := hrel
    by_cases h1 : ¬ i < M
    · have h1' : ¬ (i : Int) < (M : Int) := by omega
      have HF : Hid (bb = true) := by
        refine HTr.out fun q hq => ?_
        obtain ⟨j, hj, e⟩ := List.getElem_of_mem hq
        rw [tx_get hj] at e
        rw [← e]
        exact HQ.out j (by have := HM.out; omega)
      have HG := hidb (HE0.out _ G3.out).gr
      clear h1
      go_wp2
      go_ret
      exact ⟨by have k := HF.out; subst k; rfl, HG.out⟩
    · have h1' : (i : Int) < (M : Int) := by omega
      have hiM : i < M := by omega
      have HiM := hidb hiM
      have hil : i < L.length := by rw [← HM.out]; exact hiM
      have e5 : IntKind.i64.wrap ((i : Int) + 1) = ((i + 1 : Nat) : Int) := by rw [show (i : Int) + 1 = ((i + 1 : Nat) : Int) by omega]; exact wrap_in (by have := HLl.out; omega) (by have := HLl.out; omega)
      have ix := HIx.out i hiM
      obtain ⟨⟨c0, c1, c2⟩, -⟩ := (HS.out _ G3.out).row i hil
      have bd := HBd.out _ (tx_mem hil)
      obtain ⟨lh, hlh⟩ : ∃ z, z = x * (((tx L i).2 : Int) - (tx L i).1) + y * (tx L i).1 := ⟨_, rfl⟩
      have HLH := hidb hlh
      obtain ⟨a, ha⟩ : ∃ z : Int, z = ((tx L i).1 : Int) := ⟨_, rfl⟩
      obtain ⟨c, hc⟩ : ∃ z : Int, z = ((tx L i).2 : Int) := ⟨_, rfl⟩
      obtain ⟨gr, hgr⟩ : ∃ z : Int, z = G (tx L i) := ⟨_, rfl⟩
      have HGR := hidb hgr
      rw [← ha] at c0 hlh
      rw [← hc] at c1 hlh bd
      rw [← hgr] at c2 bd
      have hxy := HX.out
      unfold hiE at hxy
      obtain ⟨z1, v1, g1⟩ : ∃ z : Int, z = c - a ∧ IntKind.i64.wrap (c - a) = z := ⟨_, rfl, wrap_in (by omega) (by omega)⟩
      have w1' := mul254 (k := z1) (x := x) (by omega) (by omega) (M := 2097152) (by omega) hxy.1
      have w2' := mul254 (k := a) (x := y) (by omega) (by omega) (M := 2097152) (by omega) hxy.2
      rw [Int.mul_comm z1 x] at w1'
      rw [Int.mul_comm a y] at w2'
      rw [← v1] at hlh
      obtain ⟨z2, v2, g2⟩ : ∃ z : Int, z = x * z1 ∧ IntKind.i64.wrap (x * z1) = z := ⟨_, rfl, wrap_in (by omega) (by omega)⟩
      obtain ⟨z3, v3, g3⟩ : ∃ z : Int, z = y * a ∧ IntKind.i64.wrap (y * a) = z := ⟨_, rfl, wrap_in (by omega) (by omega)⟩
      rw [← v2] at hlh w1'
      rw [← v3] at hlh w2'
      have g4 : IntKind.i64.wrap (z2 + z3) = lh := by rw [hlh]; exact wrap_in (by omega) (by omega)
      clear h1 hiM bd hlh ha hc hgr hxy v1 v2 v3 w1' w2'
      by_cases h3 : lh < gr
      · have HF : Hid (bb = false) := HFa.out ⟨tx L i, tx_mem hil, by rw [← HLH.out, ← HGR.out]; exact h3⟩
        have d3 : decide (lh < gr) = true := decide_eq_true h3
        clear hil
        go_upto_region 7 with fail
        go_quiet (fail)
        go_wp2
        go_ret
        exact ⟨by have k := HF.out; subst k; rfl, (HE0.out _ (G3.out.drewN _)).gr⟩
      · have d3 : decide (lh < gr) = false := decide_eq_false h3
        have HQ2 : Hid (∀ j, j < i + 1 → G (tx L j) ≤ x * (((tx L j).2 : Int) - (tx L j).1) + y * (tx L j).1) := fun j hj => by
          by_cases ej : j = i
          · rw [ej, ← HLH.out, ← HGR.out]; omega
          · exact HQ.out j (by omega)
        clear hil
        go_upto_region 7 with fail
        go_quiet (fail)
        go_wp2
        go_roundw
        case rel => exact ⟨i + 1, HiM.out, by go_num, hidb (G3.out.drewN _), HQ2⟩
        case measure => have := HiM.out; simp [intOf]; omega
end Go.Proofs.YtpdiefmmenfpaaaDoor
