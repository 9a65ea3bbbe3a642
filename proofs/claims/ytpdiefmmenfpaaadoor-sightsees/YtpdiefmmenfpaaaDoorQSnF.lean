/-
  mercatorref4.IsNeed, of what is needed.
-/
import Derived.Test.YtpdiefmmenfpaaaDoorQSnE
namespace Go.Proofs.YtpdiefmmenfpaaaDoor
open Go.RowKit
attribute [local go_sem ↓] Go.wp_at_zero Go.wp_at_succ

theorem OV.sl {W : World} {G : Nat × Nat → Int} {v : Value} {L : List (Nat × Nat)} (h : OV W G v L) : ∃ ad b cap, v = .slice ad L.length cap ∧ TSl W G ad b cap L := by
  rcases h with ⟨rfl, rfl⟩ | ⟨-, b, cap, rfl, hT, -⟩
  · exact ⟨none, 0, 0, rfl, TSl.nil _ _ _ _ _⟩
  · exact ⟨_, b, cap, rfl, hT⟩
/-- How much is left over at a stop, with what is needed. -/
def dvS (G : Nat × Nat → Int) (x y N D : Int) (p : Nat × Nat) : Int := (x * ((p.2 : Int) - p.1) + y * p.1 - G p) * D + N * p.1
theorem dvS_lk (l : List Int) (m n c0 r0 c1 r1 : Nat) (x y N D : Int) (p : Nat × Nat) : dvS (gK l m n c0 r0 c1 r1) x y N D p = N * p.1 - lkK l m n c0 r0 c1 r1 x y p * D := by unfold dvS lkK; grind
theorem lkK_same (l : List Int) (m n c0 r0 c1 r1 : Nat) (x y : Int) {p q : Nat × Nat} (hp : 0 < p.2) (hq : 0 < q.2) (h : eqS q p) : lkK l m n c0 r0 c1 r1 x y q * p.2 = lkK l m n c0 r0 c1 r1 x y p * q.2 := by
  have h1 := gK_same l m n c0 r0 c1 r1 (k := q.1) (p := q.2) (k' := p.1) (p' := p.2) hq hp h
  have h2 : (q.1 : Int) * p.2 = p.1 * q.2 := by have := congrArg (fun z : Nat => (z : Int)) h; simpa [Int.natCast_mul] using this
  unfold lkK
  have h3 : gK l m n c0 r0 c1 r1 q * (p.2 : Int) = gK l m n c0 r0 c1 r1 p * q.2 := h1
  grind
theorem need_all {l : List Int} {m n c0 r0 c1 r1 : Nat} {x y N D : Int} {s : Int × Nat} (hs : s = ndK (lkK l m n c0 r0 c1 r1 x y) (sts c0 r0 c1 r1)) (hD : 0 < D) (hN : N * s.2 = s.1 * D) : (∀ q ∈ stL (sts c0 r0 c1 r1), 0 ≤ dvS (gK l m n c0 r0 c1 r1) x y N D q) ∧ (N = 0 ∨ ∃ q ∈ stL (sts c0 r0 c1 r1), dvS (gK l m n c0 r0 c1 r1) x y N D q = 0) := by
  have I := NdI.all' (lkK l m n c0 r0 c1 r1 x y) (sts c0 r0 c1 r1) (fun q hq => (sts_in hq).1)
  rw [← hs] at I
  have hd := I.den
  have hd' : (0 : Int) < (s.2 : Int) := by omega
  obtain ⟨k1, k2, -⟩ := stL_in _ (sts c0 r0 c1 r1) rfl
  constructor
  · intro q hq
    rw [dvS_lk]
    have h1 := I.all q (k1 q hq)
    have h2 : lkK l m n c0 r0 c1 r1 x y q * s.2 * D ≤ s.1 * q.1 * D := Int.mul_le_mul_of_nonneg_right h1 (Int.le_of_lt hD)
    have h3 : lkK l m n c0 r0 c1 r1 x y q * D * s.2 ≤ N * q.1 * s.2 := by
      have e1 : lkK l m n c0 r0 c1 r1 x y q * D * (s.2 : Int) = lkK l m n c0 r0 c1 r1 x y q * s.2 * D := by grind
      have e2 : N * (q.1 : Int) * s.2 = s.1 * q.1 * D := by
        have : N * (q.1 : Int) * s.2 = (N * s.2) * q.1 := by grind
        rw [this, hN]; grind
      omega
    have := Int.le_of_mul_le_mul_right h3 hd'
    omega
  · rcases I.one with e | ⟨p, hp, e⟩
    · left
      rw [e] at hN
      simp at hN
      exact hN
    · right
      obtain ⟨q, hq, eq⟩ := k2 p hp
      refine ⟨q, hq, ?_⟩
      have hp2 := sts_in hp
      have hq2 := sts_in (k1 q hq)
      have h1 := lkK_same l m n c0 r0 c1 r1 x y (p := p) (q := q) (by omega) (by omega) eq
      have h2 : (q.1 : Int) * p.2 = p.1 * q.2 := by have := congrArg (fun z : Nat => (z : Int)) eq; simpa [Int.natCast_mul] using this
      rw [e] at hN
      simp only at hN
      rw [dvS_lk]
      have h3 : (N * q.1 - lkK l m n c0 r0 c1 r1 x y q * D) * (p.2 : Int) = 0 := by
        have a1 : (N * q.1 - lkK l m n c0 r0 c1 r1 x y q * D) * (p.2 : Int) = N * (q.1 * p.2) - (lkK l m n c0 r0 c1 r1 x y q * p.2) * D := by grind
        rw [a1, h2, h1]
        have a2 : N * ((p.1 : Int) * q.2) - lkK l m n c0 r0 c1 r1 x y p * q.2 * D = (N * p.1 - lkK l m n c0 r0 c1 r1 x y p * D) * q.2 := by grind
        rw [a2, hN]
        simp
      rcases Int.mul_eq_zero.1 h3 with k | k
      · exact k
      · omega
/-- Two boxes, and the raster that is pointed to. -/
structure IN (w W : World) (pb po : Nat) (a b c : Value) (k fr : List Value) : Prop where
  m : MF w W pb po a b c k
  f : At W (w.heap.size + 1) fr
section
variable {w W w' : World} {pb po : Nat} {a b c : Value} {k fr : List Value}
theorem IN.below (h : IN w W pb po a b c k fr) (hB : Below W.heap.size W w') : IN w w' pb po a b c k fr := ⟨h.m.below hB, h.f.below hB⟩
theorem IN.drewN (h : IN w W pb po a b c k fr) {n : Nat} (e : World.drewN W n = w') : IN w w' pb po a b c k fr := by
  subst e
  exact ⟨h.m.drewN rfl, h.f.drewN n⟩
end
set_option maxRecDepth 4000 in
set_option maxHeartbeats 16000000 in
theorem isNeed_any {pb po b o cap m n fN tN : Nat} {l : List Int} (f t e u N D : Int) (hf : f = (fN : Int)) (ht : t = (tN : Int)) (w : World) (hp : PtR w pb po m n (.slice (some ⟨b, o, none⟩) l.length cap)) (h : Rs w b o cap l) (ok : Ok l m n) (hfN : fN < l.length) (htN : tN < l.length) (he : 0 ≤ e ∧ e ≤ 1048576) (hN : 0 ≤ N ∧ N ≤ 2000000000) (hD : 1 ≤ D ∧ D ≤ 254) (hE : N * (nedS l m n fN tN e).2 = (nedS l m n fN tN e).1 * D) : Calls Tryd.prog 29 #[.pointer (some ⟨pb, po, none⟩), loV f t e u, .agg #[.int .i64 N, .int .i64 D]] w fun ee w' => ee = .returned (.bool true) ∧ Gr w w' := by
  have hlen := ok.len_le
  have CS := hidb (fun (W : World) (hG : Gr w W) => stopsOf_any f t e u hf ht W (hp.below hG.out) (h.below hG.out) ok hfN htN)
  obtain ⟨ha, ht2⟩ := need_all (x := gl l fN + e) (y := gl l tN) (s := nedS l m n fN tN e) rfl (show (0 : Int) < D by omega) hE
  have hbx := hiE_add (ok.hi fN) he.1 he.2
  have hby := hiE_add (ok.hi tN) (Int.le_refl 0) (by decide)
  rw [Int.add_zero] at hby
  have hm2 := ok.m2
  have hn2 := ok.n2
  obtain ⟨d1', d2'⟩ := ok.div hfN
  obtain ⟨d3', d4'⟩ := ok.div htN
  have hst := stL_in _ (sts (fN % m) (fN / m) (tN % m) (tN / m)) rfl
  have HBd : Hid (∀ q ∈ stL (sts (fN % m) (fN / m) (tN % m) (tN / m)), ((1 ≤ q.1 ∧ q.1 < q.2) ∧ q.2 ≤ 254) ∧ -1048576 * (q.2 : Int) ≤ gK l m n (fN % m) (fN / m) (tN % m) (tN / m) q ∧ gK l m n (fN % m) (fN / m) (tN % m) (tN / m) q ≤ 1048576 * (q.2 : Int)) := fun q hq => by
    have k := hst.1 q hq
    exact ⟨⟨sts_in k, sts_le k (by omega) (by omega) (by omega) (by omega)⟩, gP_bd (by have := sts_in k; omega) ok.hi⟩
  have HLl : Hid ((stL (sts (fN % m) (fN / m) (tN % m) (tN / m))).length ≤ 2000) := by
    show _ ≤ _
    have k1 := hst.2.2
    have k2 := pfS_len (c0 := fN % m) (c1 := tN % m) (r0 := fN / m) (r1 := tN / m) (by omega) (by omega) (by omega) (by omega) 3
    rw [pfS_3] at k2
    omega
  generalize stL (sts (fN % m) (fN / m) (tN % m) (tN / m)) = L at *
  generalize gK l m n (fN % m) (fN / m) (tN % m) (tN / m) = G at *
  have HRf := hidb (fun (W : World) (hG : Gr w W) => (h.below hG.out).get hfN)
  have HRt := hidb (fun (W : World) (hG : Gr w W) => (h.below hG.out).get htN)
  have IF := iindex b o l.length cap fN hfN
  have IT := iindex b o l.length cap tN htN
  rw [← hf] at IF
  rw [← ht] at IT
  have bf := ok.hi fN
  unfold hiI at bf
  obtain ⟨x0, hx0⟩ : ∃ z, z = gl l fN := ⟨_, rfl⟩
  obtain ⟨y, hy⟩ : ∃ z, z = gl l tN := ⟨_, rfl⟩
  rw [← hx0] at HRf hbx ha ht2 bf
  rw [← hy] at HRt hby ha ht2
  obtain ⟨x, hx, e1⟩ : ∃ z : Int, z = x0 + e ∧ IntKind.i64.wrap (x0 + e) = z := ⟨_, rfl, wrap_in (by omega) (by omega)⟩
  rw [← hx] at hbx ha ht2
  have HA := hidb ha
  have HT := hidb ht2
  have HX := hidb (show hiE x ∧ hiE y from ⟨hbx, hby⟩)
  have HND := hidb (show (0 ≤ N ∧ N ≤ 2000000000) ∧ 1 ≤ D ∧ D ≤ 254 from ⟨hN, hD⟩)
  have hN0 : ¬ N < 0 := by omega
  have E0 : Hid (IN w ((w.alloc (.cells #[.int .i64 f, .int .i64 t, .int .i64 e, .int .i64 u] 47)).alloc (.cells #[.int .i64 N, .int .i64 D] 28)) pb po (.int .i64 (m : Int)) (.int .i64 (n : Int)) (.slice (some ⟨b, o, none⟩) l.length cap) [.int .i64 f, .int .i64 t, .int .i64 e, .int .i64 u] [.int .i64 N, .int .i64 D]) := by
    have hB := ((Gr.refl w).alloc (.cells #[.int .i64 f, .int .i64 t, .int .i64 e, .int .i64 u] 47)).alloc (.cells #[.int .i64 N, .int .i64 D] 28)
    exact ⟨⟨(At.new4 _ _ _ _ _ _).alloc _, (hp.below hB.out).all, hB, lt_of_cell hp.c0⟩, At.nx2 _ _ _ _⟩
  obtain ⟨LN, hLN⟩ : ∃ z, z = l.length := ⟨_, rfl⟩
  rw [← hLN] at IF IT E0
  clear hlen ha ht2 hbx hby hm2 hn2 d1' d2' d3' d4' hst bf hx0 hy hx hN hD hE hLN hf ht hp h ok hfN htN he
  show Calls Tryd.prog 29 #[_, .agg #[.int .i64 f, .int .i64 t, .int .i64 e, .int .i64 u], _] w _
  go_enter Tryd.func29, Tryd.ntmps29
  obtain ⟨k0, k1, k2, k3⟩ := E0.out.m.a0.c4
  go_wp2_with fail
  refine (CS.out _ E0.out.m.gr).mono ?_
  rintro ee w1 ⟨v, rfl, hO, hB⟩
  obtain ⟨ad, vb, vc, rfl, hT⟩ := hO.sl
  replace E0 := hidb (E0.out.below hB.out)
  have HS := hidb (fun (W : World) (hG : Gr w1 W) => hT.below hG.out)
  have HIx := hidb hT.ix
  obtain ⟨M, hM⟩ : ∃ z, z = L.length := ⟨_, rfl⟩
  have HM := hidb hM
  rw [← hM] at HIx HLl ⊢
  have HE0 := hidb (fun (W : World) (hG : Gr w1 W) => E0.out.below hG.out)
  clear hB hO hT hM k0 k1 k2 k3 CS
  go_upto_region 2 with fail
  obtain ⟨⟨p0, p1, p2⟩, k0, k1, k2, k3⟩ := E0.out.m.all
  have cf := HRf.out _ E0.out.m.gr
  go_quiet (fail)
  go_upto_region 3 with fail
  clear p0 p1 p2 k0 k1 k2 k3 cf
  generalize hw2 : World.drewN _ _ = w2
  have G2 : Hid (Gr w1 w2) := by show Gr w1 w2; rw [← hw2]; exact (Gr.refl _).drewN _
  clear hw2
  have E2 := HE0.out _ G2.out
  obtain ⟨⟨p0, p1, p2⟩, k0, k1, k2, k3⟩ := E2.m.all
  have cf := HRt.out _ E2.m.gr
  clear E2
  go_quiet (fail)
  go_upto_region 4 with fail
  clear p0 p1 p2 k0 k1 k2 k3 cf
  generalize hw3 : World.drewN _ _ = w3
  replace G2 : Hid (Gr w1 w3) := by show Gr w1 w3; rw [← hw3]; exact G2.out.drewN _
  clear hw3
  obtain ⟨f0, f1⟩ := (HE0.out _ G2.out).f.c2
  obtain ⟨tg, htg⟩ : ∃ z : Bool, z = (N == 0) := ⟨_, rfl⟩
  have htg2 : (N == 0) = tg := htg.symm
  have HTg : Hid (tg = true → N = 0) := fun k => by rw [k] at htg; simpa using htg.symm
  clear htg
  go_wp2
  go_loopw [10, 11] (fun q tt wr => ∃ (i : Nat) (qb : Bool), i ≤ M ∧ q = .bool qb ∧ tt = .int .i64 (i : Int) ∧ Hid (Gr w1 wr) ∧ Hid (N = 0 ∨ (∃ j, j < i ∧ dvS G x y N D (tx L j) = 0) → qb = true)) (fun _ tt _ => M - (intOf tt).toNat)
  case atStart => exact ⟨0, tg, Nat.zero_le _, rfl, rfl, G2, hidb (fun k => by
    rcases k with k | ⟨j, hj, -⟩
    · rw [← htg2, k]; rfl
    · omega)⟩
  case round =>
    clear f0 f1 G2 htg2
    obtain ⟨i, qb, hi, rfl, rfl, G3, HQ⟩ := hrel
    by_cases h1 : ¬ i < M
    · have h1' : ¬ (i : Int) < (M : Int) := by omega
      have HF : Hid (qb = true) := by
        refine HQ.out ?_
        rcases HT.out with k | ⟨q, hq, k⟩
        · exact .inl k
        · obtain ⟨j, hj, e⟩ := List.getElem_of_mem hq
          rw [tx_get hj] at e
          exact .inr ⟨j, by have := HM.out; omega, by rw [e]; exact k⟩
      have HG := hidb (HE0.out _ G3.out).m.gr
      obtain rfl := HF.out
      clear h1
      go_wp2
      go_ret
      exact ⟨rfl, HG.out⟩
    · have h1' : (i : Int) < (M : Int) := by omega
      have hiM : i < M := by omega
      have HiM := hidb hiM
      have hil : i < L.length := by rw [← HM.out]; exact hiM
      have e5 : IntKind.i64.wrap ((i : Int) + 1) = ((i + 1 : Nat) : Int) := by rw [show (i : Int) + 1 = ((i + 1 : Nat) : Int) by omega]; exact wrap_in (by have := HLl.out; omega) (by have := HLl.out; omega)
      have ix := HIx.out i hiM
      obtain ⟨⟨c0, c1, c2⟩, -⟩ := (HS.out _ G3.out).row i hil
      have bd := HBd.out _ (tx_mem hil)
      have hd0 := HA.out _ (tx_mem hil)
      obtain ⟨dv, hdv⟩ : ∃ z, z = dvS G x y N D (tx L i) := ⟨_, rfl⟩
      rw [← hdv] at hd0
      have HDV := hidb hdv
      unfold dvS at hdv
      obtain ⟨a, ha⟩ : ∃ z : Int, z = ((tx L i).1 : Int) := ⟨_, rfl⟩
      obtain ⟨c, hc⟩ : ∃ z : Int, z = ((tx L i).2 : Int) := ⟨_, rfl⟩
      obtain ⟨gr, hgr⟩ : ∃ z : Int, z = G (tx L i) := ⟨_, rfl⟩
      rw [← ha] at c0 hdv
      rw [← hc] at c1 hdv bd
      rw [← hgr] at c2 hdv bd
      have hxy := HX.out
      have hnd := HND.out
      unfold hiE at hxy
      obtain ⟨z1, v1, g1⟩ : ∃ z : Int, z = c - a ∧ IntKind.i64.wrap (c - a) = z := ⟨_, rfl, wrap_in (by omega) (by omega)⟩
      have w1' := mul254 (k := z1) (x := x) (by omega) (by omega) (M := 2097152) (by omega) hxy.1
      have w2' := mul254 (k := a) (x := y) (by omega) (by omega) (M := 2097152) (by omega) hxy.2
      rw [Int.mul_comm z1 x] at w1'
      rw [Int.mul_comm a y] at w2'
      rw [← v1] at hdv
      obtain ⟨z2, v2, g2⟩ : ∃ z : Int, z = x * z1 ∧ IntKind.i64.wrap (x * z1) = z := ⟨_, rfl, wrap_in (by omega) (by omega)⟩
      obtain ⟨z3, v3, g3⟩ : ∃ z : Int, z = y * a ∧ IntKind.i64.wrap (y * a) = z := ⟨_, rfl, wrap_in (by omega) (by omega)⟩
      rw [← v2] at hdv w1'
      rw [← v3] at hdv w2'
      obtain ⟨z4, v4, g4⟩ : ∃ z : Int, z = z2 + z3 ∧ IntKind.i64.wrap (z2 + z3) = z := ⟨_, rfl, wrap_in (by omega) (by omega)⟩
      rw [← v4] at hdv
      obtain ⟨z5, v5, g5⟩ : ∃ z : Int, z = z4 - gr ∧ IntKind.i64.wrap (z4 - gr) = z := ⟨_, rfl, wrap_in (by omega) (by omega)⟩
      rw [← v5] at hdv
      have w3' := mul254 (k := D) (x := z5) (by omega) (by omega) (M := 4000000000) (by omega) (by omega)
      have w4' := mul254 (k := a) (x := N) (by omega) (by omega) (M := 2000000000) (by omega) (by omega)
      rw [Int.mul_comm D z5] at w3'
      rw [Int.mul_comm a N] at w4'
      obtain ⟨z6, v6, g6⟩ : ∃ z : Int, z = z5 * D ∧ IntKind.i64.wrap (z5 * D) = z := ⟨_, rfl, wrap_in (by omega) (by omega)⟩
      obtain ⟨z7, v7, g7⟩ : ∃ z : Int, z = N * a ∧ IntKind.i64.wrap (N * a) = z := ⟨_, rfl, wrap_in (by omega) (by omega)⟩
      rw [← v6] at hdv w3'
      rw [← v7] at hdv w4'
      have g8 : IntKind.i64.wrap (z6 + z7) = dv := by rw [hdv]; exact wrap_in (by omega) (by omega)
      have hd1 : ¬ dv < 0 := by omega
      obtain ⟨f0, f1⟩ := (HE0.out _ G3.out).f.c2
      clear h1 hiM hil bd hd0 hdv ha hc hgr hxy hnd v1 v2 v3 v4 v5 v6 v7 w1' w2' w3' w4'
      by_cases h3 : dv = 0
      · have h3b : (dv == 0) = true := by simp [h3]
        clear h3
        go_upto_region 10 with fail
        go_quiet (fail)
        go_wp2
        go_roundw
        case rel => exact ⟨i + 1, true, HiM.out, rfl, by go_num, hidb (G3.out.drewN _), hidb (fun _ => rfl)⟩
        case measure => have := HiM.out; simp [intOf]; omega
      · have h3b : (dv == 0) = false := by simp [h3]
        have HQ2 : Hid (N = 0 ∨ (∃ j, j < i + 1 ∧ dvS G x y N D (tx L j) = 0) → qb = true) := fun k => by
          refine HQ.out ?_
          rcases k with k | ⟨j, hj, k⟩
          · exact .inl k
          · by_cases ej : j = i
            · rw [ej, ← HDV.out] at k; exact absurd k h3
            · exact .inr ⟨j, by omega, k⟩
        clear h3
        go_upto_region 10 with fail
        go_quiet (fail)
        go_wp2
        go_roundw
        case rel => exact ⟨i + 1, qb, HiM.out, rfl, by go_num, hidb (G3.out.drewN _), HQ2⟩
        case measure => have := HiM.out; simp [intOf]; omega
end Go.Proofs.YtpdiefmmenfpaaaDoor
