/-
  sight.Stops where all is right.
-/
import Derived.Test.YtpdiefmmenfpaaaDoorQSsG
namespace Go.Proofs.YtpdiefmmenfpaaaDoor
open Go.RowKit Go.Shelf
attribute [local go_sem] Oper.semAt_some

theorem make_low {p : Nat × Nat} (h : 1 ≤ p.1 ∧ p.1 < p.2 ∧ p.2 ≤ 254) (w : World) : Calls Tryd.prog 41 #[.int .i64 (p.1 : Int), .int .i64 (p.2 : Int)] w fun e w' => e = .returned (.tuple #[.agg #[.int .i64 (rfP p).1.1, .int .i64 (rfP p).1.2], .nilIface]) ∧ Gr w w' := by
  rw [rfP_val h]
  exact make_nd ((p.1 : Int), p.2) (by simp) (by simp; omega) (by simp; omega) (by simp; omega) w
theorem news_At2 {W : World} {B : Nat} {a b : Value} (h : At W B [a, b]) : ∀ j u, [a, b][j]? = some u → W.cell? ((⟨B, 0, none⟩ : Addr).add j) = some u := by
  intro j u hu
  have ea : (⟨B, 0, none⟩ : Addr).add j = ⟨B, j, none⟩ := by
    unfold Addr.add
    split
    · rename_i h0; subst h0; rfl
    · simp
  rw [ea]
  match j with
  | 0 => simp at hu; rw [← hu]; exact h.c2.1
  | 1 => simp at hu; rw [← hu]; exact h.c2.2
  | j + 2 => simp at hu
theorem own_cap {W : World} {base e g cap n : Nat} {xs : List Value} (h : W.ownsRow base e 2 (.slice (some ⟨g, 0, none⟩) n cap) n xs) : n ≤ cap := by
  rcases h.2 with ⟨k, _⟩ | ⟨g', cap', _, k, _, _, k2, _⟩
  · cases k
  · cases k
    exact k2
theorem FRow.onl {A B : Nat} {w w' : World} {P : List (Int × Int)} (h : FRow w B P) (k : Onl A w w') (hB : B < w.heap.size) (hn : B ≠ A) : FRow w' B P := by
  have hb := k.block B hB (fun e => hn (Option.some.inj e))
  intro i hi
  exact ⟨(World.cell?_of_block (w := w) (a := ⟨B, i * 2, none⟩) hb).trans (h i hi).1, (World.cell?_of_block (w := w) (a := ⟨B, i * 2 + 1, none⟩) hb).trans (h i hi).2⟩
theorem sts_len {c0 r0 c1 r1 : Nat} (h1 : c0 < 128) (h2 : c1 < 128) (h3 : r0 < 128) (h4 : r1 < 128) : (sts c0 r0 c1 r1).length ≤ 20000 := by
  unfold sts d1 d3
  rw [List.length_append, List.length_append, prs_len, prs_len, prs_len]
  omega
/-- What Stops answers, and where. -/
def StA (w : World) (L : List (Int × Int)) (ee : Ending) (w' : World) : Prop := ∃ ad cp, ee = .returned (.tuple #[.slice ad L.length cp, .nilIface]) ∧ (L = [] ∨ ∃ G, ad = some ⟨G, 0, none⟩ ∧ w.heap.size ≤ G ∧ G < w'.heap.size ∧ FRow w' G L) ∧ Gr w w'
set_option maxRecDepth 100000 in
set_option maxHeartbeats 16000000 in
theorem stops_ok (g : Nat → Addr) {m n b o cap f t : Nat} {l : List Int} (fI tI e u : Int) (hfI : fI = (f : Int)) (htI : tI = (t : Int)) (w : World) (h : Rs w b o cap l) (ok : Ok l m n) (hv : vcode m n l = 0) (hl : Lai w g) (hb : loB l.length fI tI e u = true) : Calls Tryd.prog 20 #[raV m n (.slice (some ⟨b, o, none⟩) l.length cap), loV fI tI e u] w fun ee w' => StA w (stF (sts (f % m) (f / m) (t % m) (t / m))) ee w' := by
  obtain ⟨⟨hf, ht⟩, he, hu⟩ := loB_yes hb
  have hf' : f < l.length := by omega
  have ht' : t < l.length := by omega
  have C1 := hidb (fun W (hG : Gr w W) => right_any g fI tI e u W (h.below hG.out) ok hv (hl.below hG.out))
  rw [hb, if_pos rfl] at C1
  have C2 := hidb (fun W (hG : Gr w W) => lineOf_any e u W (h.below hG.out) ok hf' ht' he hu)
  rw [← hfI, ← htI] at C2
  have d1 := ok.div hf'
  have d2 := ok.div ht'
  have hm2 := ok.m2
  have hn2 := ok.n2
  obtain ⟨c0, hc0⟩ : ∃ z, z = f % m := ⟨_, rfl⟩
  obtain ⟨r0, hr0⟩ : ∃ z, z = f / m := ⟨_, rfl⟩
  obtain ⟨c1, hc1⟩ : ∃ z, z = t % m := ⟨_, rfl⟩
  obtain ⟨r1, hr1⟩ : ∃ z, z = t / m := ⟨_, rfl⟩
  rw [← hc0, ← hr0] at d1 C2
  rw [← hc1, ← hr1] at d2 C2
  rw [← hc0, ← hr0, ← hc1, ← hr1]
  have HB4 := hidb (show c0 < 128 ∧ c1 < 128 ∧ r0 < 128 ∧ r1 < 128 by omega)
  have HMk : Hid (∀ (p : St c0 r0 c1 r1) (W : World), Calls Tryd.prog 41 #[.int .i64 (p.1.1 : Int), .int .i64 (p.1.2 : Int)] W fun e w' => e = .returned (.tuple #[.agg #[.int .i64 (rfP p.1).1.1, .int .i64 (rfP p.1).1.2], .nilIface]) ∧ Gr W w') := fun p W => make_low ⟨(sts_in p.2).1, (sts_in p.2).2, sts_le p.2 HB4.out.1 HB4.out.2.1 HB4.out.2.2.1 HB4.out.2.2.2⟩ W
  obtain ⟨eI, heI⟩ : ∃ z : Int, z = (c1 : Int) - c0 := ⟨_, rfl⟩
  obtain ⟨sI, hsI⟩ : ∃ z : Int, z = (r1 : Int) - r0 := ⟨_, rfl⟩
  have HE := hidb (show eI = (c1 : Int) - c0 ∧ sI = (r1 : Int) - r0 from ⟨heI, hsI⟩)
  rw [← heI, ← hsI] at C2
  generalize gl l f + e = x at *
  generalize gl l t + u = y at *
  generalize l.length = N at *
  obtain ⟨cI, hcI⟩ : ∃ z : Int, z = (c0 : Int) := ⟨_, rfl⟩
  obtain ⟨rI, hrI⟩ : ∃ z : Int, z = (r0 : Int) := ⟨_, rfl⟩
  rw [← hcI, ← hrI] at C2
  obtain ⟨i0, hi, hz0, hz1, hz2⟩ := info_parts infoF
  have F0 := hidb (KG.new w (.int .i64 m) (.int .i64 n) (.slice (some ⟨b, o, none⟩) N cap) (.int .i64 fI) (.int .i64 tI) (.int .i64 e) (.int .i64 u) 35 50)
  have F := hidb ((F0.out.below ((Gr.refl _).alloc (.cells #[.slice none 0 0] 36)).out).below ((Gr.refl _).alloc (.cells #[.nilIface] 30)).out)
  have R2 := hidb ((At.ny1 (W := w) (.cells #[.int .i64 m, .int .i64 n, .slice (some ⟨b, o, none⟩) N cap] 35) (.cells #[.int .i64 fI, .int .i64 tI, .int .i64 e, .int .i64 u] 50) (.slice none 0 0) 36).alloc (.cells #[.nilIface] 30))
  have R3 := hidb (At.nz1 (W := w) (.cells #[.int .i64 m, .int .i64 n, .slice (some ⟨b, o, none⟩) N cap] 35) (.cells #[.int .i64 fI, .int .i64 tI, .int .i64 e, .int .i64 u] 50) (.cells #[.slice none 0 0] 36) .nilIface 30)
  clear h ok hl hv hb hfI htI hf ht he hu hf' ht' d1 d2 hm2 hn2 hc0 hr0 hc1 hr1 heI hsI hcI hrI F0
  refine (callsIn_wide (n := 3)).1 ?_
  refine callsIn_of_wp_marks Tryd.func20 rfl trivial ?_ rfl
  simp only [Tryd.ntmps20, List.size_toArray, List.length_cons, List.length_nil, Nat.reduceAdd, Nat.reduceSub, Array.replicate_succ, Array.replicate_zero, List.push_toArray, List.append_toArray, List.nil_append, List.cons_append]
  obtain ⟨q0, q1, q2⟩ := F.out.a0.c3
  obtain ⟨s0, s1, s2, s3⟩ := F.out.a1.c4
  gi_wp2_with fail
  refine ⟨trivial, (callsIn_wide.2 (C1.out _ F.out.gr)).mono ?_⟩
  rintro ee w1 ⟨rfl, hB⟩
  replace F := hidb (F.out.below hB.out)
  replace R2 := hidb (R2.out.below hB.out)
  replace R3 := hidb (R3.out.below hB.out)
  clear hB q0 q1 q2 C1 s0 s1 s2 s3
  have bO := Boxed.new w1 36 (.slice none 0 0)
  have G1 := F.out.gr
  replace F := hidb (F.out.below ((Gr.refl w1).alloc (.cells #[.slice none 0 0] 36)).out)
  obtain ⟨q0, q1, q2⟩ := F.out.a0.c3
  obtain ⟨s0, s1, s2, s3⟩ := F.out.a1.c4
  gi_wp2_with fail
  refine ⟨trivial, (callsIn_wide.2 (C2.out _ F.out.gr)).mono ?_⟩
  rintro ee w2 ⟨rfl, hB⟩
  have hX := G1.out.size
  have bO2 := boxed_below bO hB.out
  have hB1 : Below w1.heap.size w1 w2 := ((Below.refl _ w1).alloc (Nat.le_refl _) _).trans (hB.out.mono (by simp))
  clear q0 q1 q2 C2 s0 s1 s2 s3 bO F hB
  gi_wp2_with fail
  refine ⟨trivial, (stopsM_in Fence.wide 2 trivial rfl m n (.slice (some ⟨b, o, none⟩) N cap) cI rI eI sI x y _).mono ?_⟩
  rintro ee w3 ⟨rfl, rfl⟩
  gi_wp2
  have B3 := At.newRow w2 (lnC m n (.slice (some ⟨b, o, none⟩) N cap) cI rI eI sI x y) 78
  have hB3 : Below w1.heap.size w1 (w2.alloc (.cells (lnC m n (.slice (some ⟨b, o, none⟩) N cap) cI rI eI sI x y).toArray 78)) := hB1.alloc hB1.size _
  have bO3 := bO2.alloc (.cells (lnC m n (.slice (some ⟨b, o, none⟩) N cap) cI rI eI sI x y).toArray 78)
  show Code.wpIn _ _ _ _ _ _ (w2.alloc (.cells (lnC m n (.slice (some ⟨b, o, none⟩) N cap) cI rI eI sI x y).toArray 78))
  generalize w2.alloc (.cells (lnC m n (.slice (some ⟨b, o, none⟩) N cap) cI rI eI sI x y).toArray 78) = w3 at *
  have hcE := B3.c9.2.2.2.2.2.1
  have hcS := B3.c9.2.2.2.2.2.2.1
  rw [HE.out.1] at hcE
  rw [HE.out.2] at hcS
  have hX3 := hB3.size
  refine wpIn_rangeFunc_ownG (α := St c0 r0 c1 r1) rfl (by decide) (gf := 61) (lb := #[.pointer (some ⟨w2.heap.size, 0, none⟩)]) rfl trivial (enters_of Tryd.func61 (by kernel_rfl) rfl)
    (stops_stops 2 (by decide) w2.heap.size HB4.out.1 HB4.out.2.1 HB4.out.2.2.1 HB4.out.2.2.2 w3 B3.lt hcE hcS) (fun _ _ => trivial) (fun _ _ _ _ _ _ _ _ => trivial) (Below.refl _ _) (fun _ => rfl)
    (fun pre W => (∃ v, Boxed W w1.heap.size 36 v ∧ W.ownsRow w1.heap.size 28 2 v pre.length (fr (pre.map fun p => rfP p.1)) ∧ (v = .slice none 0 0 ↔ pre = [])) ∧ Below w1.heap.size w1 W)
    (fun _ _ _ => False)
    (OwnFrom.and (Own.from (holdsRow_own w1.heap.size w1.heap.size 36 28 2 (fun pre : List (St c0 r0 c1 r1) => pre.length) (fun pre => fr (pre.map fun p => rfP p.1)) (fun pre v => v = .slice none 0 0 ↔ pre = [])) _) (ownFrom_below (Nat.le_refl _) hX3))
    (fun _ _ _ _ _ hs _ _ => hs)
    ⟨⟨_, bO3, World.ownsRow_nil _ _ _ _, by simp⟩, hB3⟩ ?a1 ?assign ?body ?done ?stop
  case assign =>
    intro l x W K hK
    gi_wp2
    exact hK
  case body =>
    rintro lp pre p W ⟨⟨v, hv, hrow, hnil⟩, hB⟩ hlt
    have HC := hidb (HMk.out p W)
    have HV := hidb hv
    have HR := hidb hrow
    have HBB := hidb hB
    have hp1000 : pre.length < 1000 := hlt
    clear hv hrow hnil hB hlt
    obtain ⟨y1, hy1⟩ : ∃ z, z = (rfP p.1).1.1 := ⟨_, rfl⟩
    obtain ⟨y2, hy2⟩ : ∃ z, z = (rfP p.1).1.2 := ⟨_, rfl⟩
    rw [← hy1, ← hy2] at HC
    have HY := hidb (show [Value.int .i64 y1, .int .i64 y2] = encF (rfP p.1) by rw [hy1, hy2]; rfl)
    clear hy1 hy2
    gi_wp2_with fail
    refine ⟨trivial, (CallsIn.inRound lp (callsIn_wide.2 HC.out)).mono ?_⟩
    rintro e w9 ⟨rfl, hB9⟩
    have hv9 := boxed_below HV.out hB9.out
    have hc9 := hv9.cell
    have hlt9 := hv9.lt
    have hne9 : ¬ w9.heap.size = w1.heap.size := by omega
    have hne9' : ¬ w1.heap.size = w9.heap.size := by omega
    have hB10 : Below W.heap.size W (w9.alloc (.cells #[.int .i64 y1, .int .i64 y2] 28)) := hB9.out.alloc hB9.out.size _
    have hv10 := boxed_below HV.out hB10
    have hr10 := own_belowF hB10 HR.out
    have hs10 := hB10.size
    have hsW := HBB.out.size
    have hA := At.nx2 (W := w9) (.cells #[.int .i64 y1, .int .i64 y2] 28) (.int .i64 y1) (.int .i64 y2) 28
    have hml : 1000000 ≤ maxLen := by decide
    gi_wp2_with (gi_at_builtin; refine wpListIn_append_own _ rfl _ _ 36 rfl w1.heap.size 28 i0 (.agg #[.int .i64 0, .int .i64 0]) 2 16 undF hi hz0 hz1 hz2 rfl (by decide) _ _ _ rfl (hr10.alloc _) ⟨w9.heap.size + 1, 0, none⟩ 1 1 [.int .i64 y1, .int .i64 y2] rfl rfl (news_At2 hA) (by intro u hu; simp at hu; rcases hu with rfl | rfl <;> rfl) (by omega) (by omega) (by simp at hs10 ⊢; omega) ?_; intro v' w11 hown' hgrow _; obtain ⟨g', cap', rfl⟩ := ownsRow_succ hown'; obtain ⟨hv1, hv2, hr2, hk2, hb2⟩ := hv10.appended (by decide) hr10 (by omega) (Nat.le_refl _) hown' hgrow; have hc1 := hv1.cell; have hf1 := hv1.frozen)
    refine ⟨((keeps_below hB10).trans hk2).from _, trivial, ⟨_, hv2, ?_, by simp⟩, HBB.out.trans ((hB10.mono hsW).trans hb2)⟩
    rw [List.map_append, List.map_cons, List.map_nil, ← fr_snoc, ← HY.out, List.length_append]
    exact hr2
  case done =>
    rintro D ys W hD hys ⟨⟨v, hv, hrow, hnil⟩, hB⟩ hK
    have eL : (ys.map fun p => rfP p.1) = (sts c0 r0 c1 r1).map rfP := by have k := congrArg (List.map rfP) hys; rw [List.map_map] at k; exact k
    have eN : ys.length = (sts c0 r0 c1 r1).length := by have k := congrArg List.length hys; rw [List.length_map] at k; exact k
    rw [eL] at hrow
    rw [eN] at hrow
    have hc := hv.cell
    have hz2 := R2.out.below hB
    have hz3 := R3.out.below hB
    have hwW := hB.size
    have b2l := R2.out.lt
    have b3l := R3.out.lt
    have HG : Hid (Below w.heap.size w W) := G1.out.trans (hB.mono hX)
    by_cases h0 : ys = []
    · obtain rfl := hnil.2 h0
      have HE0 := hidb (show sts c0 r0 c1 r1 = [] from List.eq_nil_of_length_eq_zero (by rw [← eN, h0]; rfl))
      have HK := hidb (show W.heap[D]? = some (.deferred (some [])) ∧ w.heap.size ≤ D from ⟨hK, by omega⟩)
      have HZ := hidb (show At W (w.heap.size + 1 + 1) [.slice none 0 0] ∧ At W (w.heap.size + 1 + 1 + 1) [.nilIface] from ⟨hz2, hz3⟩)
      have HS := hidb (fun W => sortF_nil W)
      have HCm := hidb (fun W => compact_nil W)
      have p0 := hz2.c1
      have p1 := hz2.fz1
      have p2 := hz3.c1
      have p3 := hz3.fz1
      clear hys eL eN hnil hrow h0 hB hwW hv hK hD hz2 hz3 B3 hB3 bO3 hcE hcS hX3 bO2 hB1
      gi_wp2_with fail
      refine ⟨trivial, (callsIn_wide.2 (HS.out _)).mono ?_⟩
      rintro e w4 ⟨rfl, rfl⟩
      gi_wp2_with fail
      refine ⟨trivial, (callsIn_wide.2 (HCm.out _)).mono ?_⟩
      rintro e w5 ⟨rfl, rfl⟩
      gi_wp2
      have hK' := ((KeepsOthers.setCell w5 ⟨w.heap.size + 1 + 1, 0, none⟩ (.slice none 0 0)).trans (KeepsOthers.setCell _ ⟨w.heap.size + 1 + 1 + 1, 0, none⟩ .nilIface)).same D _ HK.out.1 rfl
      refine ⟨by simp, .inl ⟨_, _, rfl, run_takeDeferred hK', ?_⟩⟩
      have A2 := At.kept ((At.fill1 (HZ.out.1.has rfl) (.slice none 0 0)).skip (c := w.heap.size + 1 + 1 + 1) (by omega) 0 .nilIface) (grownBy_putObj' _ D (.deferred none)) (fun r e => by cases e; exact ⟨_, hK', rfl⟩)
      have A3 := At.kept (At.fill1 ((HZ.out.2.skip (c := w.heap.size + 1 + 1) (by omega) 0 (.slice none 0 0)).has rfl) .nilIface) (grownBy_putObj' _ D (.deferred none)) (fun r e => by cases e; exact ⟨_, hK', rfl⟩)
      have c2 := A2.c1
      have c3 := A3.c1
      have hwl := HG.out.size
      refine ⟨.tuple #[.slice none 0 0, .nilIface], ?_, none, 0, ?_, .inl ?_, hidb (((HG.out.setCell (p := ⟨w.heap.size + 1 + 1, 0, none⟩) (by simp; omega) _).setCell (p := ⟨w.heap.size + 1 + 1 + 1, 0, none⟩) (by simp; omega) _).trans (belowK_b (w := w) (Nat.le_refl _) _ D _ _ (by have := HK.out.2; omega) hK' rfl rfl))⟩
      · simp [results, Tryd.f20, go_sem, c2, c3]
      · rw [HE0.out]; rfl
      · rw [HE0.out]; rfl
    · obtain ⟨L, hL⟩ : ∃ L, L = (sts c0 r0 c1 r1).map rfP := ⟨_, rfl⟩
      have eLn : (sts c0 r0 c1 r1).length = L.length := by rw [hL, List.length_map]
      rw [← hL, eLn] at hrow
      have hpos : 1 ≤ L.length := by
        have : ys.length ≠ 0 := fun e => h0 (List.eq_nil_of_length_eq_zero e)
        omega
      have hlt : L.length ≤ 20000 := by rw [← eLn]; exact sts_len HB4.out.1 HB4.out.2.1 HB4.out.2.2.1 HB4.out.2.2.2
      obtain ⟨g', cp, rfl⟩ : ∃ g' cp, v = .slice (some ⟨g', 0, none⟩) L.length cp := by
        obtain ⟨k, hk⟩ : ∃ k, L.length = k + 1 := ⟨L.length - 1, by omega⟩
        rw [hk] at hrow ⊢
        exact ownsRow_succ hrow
      have hFB := own_fb hrow
      obtain ⟨hg1, hg2⟩ := hrow.lt g' rfl
      have hneX : ¬ g' = w1.heap.size := fun e => hv.not_row (by decide) hrow (by rw [← e]; rfl)
      have hDg : ¬ g' = D := fun e => by
        have k := (hFB.cl 0 hpos).1.1
        rw [e] at k
        simp [World.cell?, hK] at k
      have hcap := own_cap hrow
      have HS := hidb (sortF_any (cap := cp) hlt W hFB)
      have HK := hidb (show W.heap[D]? = some (.deferred (some [])) ∧ w.heap.size ≤ D ∧ D < W.heap.size from ⟨hK, by omega, (Array.getElem?_eq_some_iff.1 hK).1⟩)
      have HZ := hidb (show At W (w.heap.size + 1 + 1) [.slice none 0 0] ∧ At W (w.heap.size + 1 + 1 + 1) [.nilIface] from ⟨hz2, hz3⟩)
      have HV := hidb hv
      have HL := hidb (show dfK (fsAt (srt L)) L.length = stF (sts c0 r0 c1 r1) by unfold stF; rw [eLn, hL])
      have HN := hidb (show 1 ≤ L.length ∧ L.length ≤ 20000 ∧ L.length ≤ cp from ⟨hpos, hlt, hcap⟩)
      have Hg := hidb (show (w1.heap.size ≤ g' ∧ g' < W.heap.size) ∧ ¬ g' = w1.heap.size ∧ ¬ g' = D from ⟨⟨hg1, hg2⟩, hneX, hDg⟩)
      obtain ⟨nL, hnL⟩ : ∃ z, z = L.length := ⟨_, rfl⟩
      rw [← hnL] at HS HL HN hc
      clear hys eL eN hnil hrow h0 hB hwW hv hK hD hz2 hz3 B3 hB3 bO3 hcE hcS hX3 bO2 hB1 hL eLn hpos hlt hg1 hg2 hneX hDg hcap hFB hnL
      gi_wp2_with fail
      refine ⟨trivial, (callsIn_wide.2 HS.out).mono ?_⟩
      rintro e w4 ⟨rfl, hF4, hO4⟩
      have hc4 := (World.cell?_of_block (w := W) (a := ⟨w1.heap.size, 0, none⟩) (hO4.block w1.heap.size HV.out.lt (fun e => Hg.out.2.1 (Option.some.inj e).symm))).trans hc
      have HC5 := hidb (compact_any (cap := cp) HN.out.1 HN.out.2.1 HN.out.2.2 w4 hF4)
      have HO4 := hidb hO4
      obtain ⟨P, hP⟩ : ∃ P, P = dfK (fsAt (srt L)) nL := ⟨_, rfl⟩
      rw [← hP] at HC5 HL
      clear hc hF4 hO4 HS hP
      gi_wp2_with fail
      refine ⟨trivial, (callsIn_wide.2 HC5.out).mono ?_⟩
      rintro e w5 ⟨rfl, hR5, hl5, hO5⟩
      have O5 := hidb (HO4.out.trans hO5)
      have HR5 := hidb (show FRow w5 g' P ∧ g' < w5.heap.size from ⟨hR5, hl5⟩)
      have hz2 := HZ.out.1.onl O5.out (by have := Hg.out; omega)
      have hz3 := HZ.out.2.onl O5.out (by have := Hg.out; omega)
      have hK5 := (O5.out.block D HK.out.2.2 (fun e => Hg.out.2.2 (Option.some.inj e).symm)).trans HK.out.1
      have HZ5 := hidb (show (At w5 (w.heap.size + 1 + 1) [.slice none 0 0] ∧ At w5 (w.heap.size + 1 + 1 + 1) [.nilIface]) ∧ w5.heap[D]? = some (.deferred (some [])) from ⟨⟨hz2, hz3⟩, hK5⟩)
      have HG5 := hidb (Onl.of HG.out O5.out (by have := Hg.out; omega))
      have p0 := hz2.c1
      have p1 := hz2.fz1
      have p2 := hz3.c1
      have p3 := hz3.fz1
      clear hR5 hl5 hO5 hz2 hz3 hK5 hc4 HC5
      gi_wp2
      have hK' := ((KeepsOthers.setCell w5 ⟨w.heap.size + 1 + 1, 0, none⟩ (.slice (some ⟨g', 0, none⟩) P.length cp)).trans (KeepsOthers.setCell _ ⟨w.heap.size + 1 + 1 + 1, 0, none⟩ .nilIface)).same D _ HZ5.out.2 rfl
      refine ⟨by simp, .inl ⟨_, _, rfl, run_takeDeferred hK', ?_⟩⟩
      have A2 := At.kept ((At.fill1 (HZ5.out.1.1.has rfl) (.slice (some ⟨g', 0, none⟩) P.length cp)).skip (c := w.heap.size + 1 + 1 + 1) (by omega) 0 .nilIface) (grownBy_putObj' _ D (.deferred none)) (fun r e => by cases e; exact ⟨_, hK', rfl⟩)
      have A3 := At.kept (At.fill1 ((HZ5.out.1.2.skip (c := w.heap.size + 1 + 1) (by omega) 0 (.slice (some ⟨g', 0, none⟩) P.length cp)).has rfl) .nilIface) (grownBy_putObj' _ D (.deferred none)) (fun r e => by cases e; exact ⟨_, hK', rfl⟩)
      have c2 := A2.c1
      have c3 := A3.c1
      have hwl := HG5.out.size
      have F6 := HR5.out.1.onl ((Onl.refl (w.heap.size + 1 + 1) w5).set 0 (.slice (some ⟨g', 0, none⟩) P.length cp)) HR5.out.2 (by have := Hg.out; omega)
      have F7 := F6.onl ((Onl.refl (w.heap.size + 1 + 1 + 1) _).set 0 .nilIface) (by simp; exact HR5.out.2) (by have := Hg.out; omega)
      have F8 := F7.onl (grownBy_putObj' _ D (.deferred none)) (by simp; exact HR5.out.2) (by have := Hg.out; omega)
      rw [← HL.out]
      refine ⟨.tuple #[.slice (some ⟨g', 0, none⟩) P.length cp, .nilIface], ?_, some ⟨g', 0, none⟩, cp, rfl, .inr ⟨g', rfl, by have := Hg.out; omega, ?_, F8⟩, hidb (((HG5.out.setCell (p := ⟨w.heap.size + 1 + 1, 0, none⟩) (by simp; omega) _).setCell (p := ⟨w.heap.size + 1 + 1 + 1, 0, none⟩) (by simp; omega) _).trans (belowK_b (w := w) (Nat.le_refl _) _ D _ _ (by have := HK.out.2; omega) hK' rfl rfl))⟩
      · simp [results, Tryd.f20, go_sem, c2, c3]
      · simp; exact HR5.out.2
  case stop =>
    rintro D c pre W _ _ h _
    exact h.elim
end Go.Proofs.YtpdiefmmenfpaaaDoor
