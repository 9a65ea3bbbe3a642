/-
  mercatorref4.StopsOf.
-/
import Derived.Test.YtpdiefmmenfpaaaDoorQSnD
import Derived.Test.YtpdiefmmenfpaaaDoorQSiE
import Derived.Deep.DrawnRows
namespace Go.Proofs.YtpdiefmmenfpaaaDoor
open Go.RowKit
attribute [local go_sem ↓] Go.wp_at_zero Go.wp_at_succ

/-- Stops so far: none, or a slice of them. -/
def OV (W : World) (G : Nat × Nat → Int) (v : Value) (L : List (Nat × Nat)) : Prop := (L = [] ∧ v = .slice none 0 0) ∨ 1 ≤ L.length ∧ TV W G v L
theorem TV.below {W w' : World} {G : Nat × Nat → Int} {v : Value} {L : List (Nat × Nat)} (h : TV W G v L) (hB : Below W.heap.size W w') : TV w' G v L := by
  obtain ⟨b, cap, h1, h2, h3⟩ := h
  exact ⟨b, cap, h1, h2.below hB, h3⟩
theorem OV.below {W w' : World} {G : Nat × Nat → Int} {v : Value} {L : List (Nat × Nat)} (h : OV W G v L) (hB : Below W.heap.size W w') : OV w' G v L := h.imp id (fun k => ⟨k.1, k.2.below hB⟩)
theorem wsP_pos (L : List (Nat × Nat)) (s : Nat × Nat) : 1 ≤ (wsP L s).length := by
  cases L with
  | nil => simp [wsP]
  | cons q L =>
    unfold wsP
    split
    · simp
    · split <;> simp
theorem tx_mem {L : List (Nat × Nat)} {j : Nat} (h : j < L.length) : tx L j ∈ L := by rw [← tx_get h]; exact List.getElem_mem h
theorem withStop_ov (G : Nat × Nat → Int) {L : List (Nat × Nat)} {s : Nat × Nat} {v : Value} (hL : L.length ≤ 100000) (hs1 : s.1 ≤ 1000) (hs2 : s.2 ≤ 1000) (hLb : ∀ q ∈ L, q.1 ≤ 1000 ∧ q.2 ≤ 1000) (aI bI cI : Int) (ha : aI = (s.1 : Int)) (hb : bI = (s.2 : Int)) (hc : cI = G s) (w : World) (h : OV w G v L) : Calls Tryd.prog 48 #[v, .agg #[.int .i64 aI, .int .i64 bI, .int .i64 cI]] w fun e w' => ∃ v', e = .returned v' ∧ TV w' G v' (wsP L s) ∧ Gr w w' := by
  rcases h with ⟨rfl, rfl⟩ | ⟨h0, h⟩
  · refine (withStop_nil G s aI bI cI ha hb hc w).mono ?_
    rintro e w' ⟨v, base, rfl, hown, -, hG⟩
    exact ⟨v, rfl, TV.of hown rfl (Nat.le_refl _), hG⟩
  · obtain ⟨b, cap, rfl, hT, hcap⟩ := h
    exact withStop_any G hL hs1 hs2 (fun j hj => hLb _ (tx_mem hj)) aI bI cI ha hb hc w hT hcap h0
/-- What lies in memory while the stops are told. -/
structure SO (w W : World) (pb po DB : Nat) (a b c : Value) (k : List Value) (D : Nat → Nat) : Prop where
  m : MF w W pb po a b c k
  d : ∀ i, i < 3 → W.cell? ⟨DB, i, none⟩ = some (.int .i64 (D i : Int))
  lt : DB < W.heap.size ∧ w.heap.size < DB
section
variable {w W w' : World} {pb po DB : Nat} {a b c : Value} {k : List Value} {D : Nat → Nat}
theorem SO.below (h : SO w W pb po DB a b c k D) (hB : Below W.heap.size W w') : SO w w' pb po DB a b c k D := ⟨h.m.below hB, fun i hi => (hB.cell (p := ⟨DB, i, none⟩) h.lt.1).trans (h.d i hi), Nat.lt_of_lt_of_le h.lt.1 hB.size, h.lt.2⟩
theorem SO.drew (h : SO w W pb po DB a b c k D) : SO w W.drew pb po DB a b c k D := ⟨h.m.drew, h.d, h.lt⟩
theorem SO.alloc (h : SO w W pb po DB a b c k D) (o : Obj) : SO w (W.alloc o) pb po DB a b c k D := h.below ((Below.refl _ _).alloc (Nat.le_refl _) o)
theorem SO.set {E : Nat} (h : SO w W pb po DB a b c k D) (hD : DB < E) (i : Nat) (v : Value) : SO w (W.setCell ⟨E, i, none⟩ v) pb po DB a b c k D := by
  have n1 : ¬ DB = E := by omega
  refine ⟨h.m.set (by have := h.lt.2; omega) i v, fun j hj => ?_, by simp; exact h.lt.1, h.lt.2⟩
  have := h.d j hj
  simp [go_sem, this]
theorem SO.all {x0 x1 x2 x3 : Value} {i : Nat} (hi : i < 3) (h : SO w W pb po DB a b c [x0, x1, x2, x3] D) : W.cell? ⟨DB, i, none⟩ = some (.int .i64 (D i : Int)) ∧ W.cell? ⟨w.heap.size, 0, none⟩ = some x0 ∧ W.cell? ⟨w.heap.size, 1, none⟩ = some x1 ∧ W.cell? ⟨w.heap.size, 2, none⟩ = some x2 ∧ W.cell? ⟨w.heap.size, 3, none⟩ = some x3 := ⟨h.d i hi, h.m.a0.c4⟩
end
/-- And what was there when a round began. -/
structure SP (w wr W : World) (pb po DB : Nat) (a b c : Value) (k : List Value) (D : Nat → Nat) : Prop where
  so : SO w W pb po DB a b c k D
  gw : Gr wr W
  bl : DB < wr.heap.size
section
variable {w wr W w' : World} {pb po DB : Nat} {a b c : Value} {k : List Value} {D : Nat → Nat}
theorem SP.below (h : SP w wr W pb po DB a b c k D) (hB : Below W.heap.size W w') : SP w wr w' pb po DB a b c k D := ⟨h.so.below hB, Gr.step h.gw hB, h.bl⟩
theorem SP.drew (h : SP w wr W pb po DB a b c k D) : SP w wr W.drew pb po DB a b c k D := ⟨h.so.drew, h.gw.drew, h.bl⟩
theorem SP.alloc (h : SP w wr W pb po DB a b c k D) (o : Obj) : SP w wr (W.alloc o) pb po DB a b c k D := h.below ((Below.refl _ _).alloc (Nat.le_refl _) o)
theorem SP.set {E : Nat} (h : SP w wr W pb po DB a b c k D) (hD : wr.heap.size ≤ E) (i : Nat) (v : Value) : SP w wr (W.setCell ⟨E, i, none⟩ v) pb po DB a b c k D := ⟨h.so.set (by have := h.bl; omega) i v, h.gw.set hD _ _, h.bl⟩
end
theorem At.fz3 {W : World} {B : Nat} {a b c : Value} (h : At W B [a, b, c]) : W.frozen? ⟨B, 0, none⟩ = false ∧ W.frozen? ⟨B, 1, none⟩ = false ∧ W.frozen? ⟨B, 2, none⟩ = false := ⟨(h.1 0 (by simp)).2, (h.1 1 (by simp)).2, (h.1 2 (by simp)).2⟩
theorem At.new3d' (W : World) (a b c : Value) (t : Nat) : At (W.drew.alloc (.cells #[a, b, c] t)) W.heap.size [a, b, c] := At.new3 W.drew a b c t
theorem MF.drewN' {w W : World} {pb po : Nat} {a b c : Value} {k : List Value} (h : MF w W pb po a b c k) (n : Nat) : MF w (W.drewN n) pb po a b c k := h.drewN rfl
/-- The stops so far are among all, and few. -/
theorem stL_bd {c0 r0 c1 r1 : Nat} (b1 : c0 < 128) (b2 : c1 < 128) (b3 : r0 < 128) (b4 : r1 < 128) {i j : Nat} (hi : i < 3) (hj : j ≤ dnS c0 r0 c1 r1 i - 1) : (stL (pfS c0 r0 c1 r1 i ++ pkS (dnS c0 r0 c1 r1 i) j)).length ≤ 2000 ∧ ∀ q ∈ stL (pfS c0 r0 c1 r1 i ++ pkS (dnS c0 r0 c1 r1 i) j), q.1 ≤ 1000 ∧ q.2 ≤ 1000 := by
  have h1 := stL_in _ (pfS c0 r0 c1 r1 i ++ pkS (dnS c0 r0 c1 r1 i) j) rfl
  have h2 := pfS_len b1 b2 b3 b4 i
  have h3 := dnS_le b1 b2 b3 b4 i
  constructor
  · have := h1.2.2
    rw [List.length_append, pkS_len] at this
    omega
  · intro q hq
    have hq2 := h1.1 q hq
    have key : ∀ i, ∀ q ∈ pfS c0 r0 c1 r1 i, q.1 ≤ 254 ∧ q.2 ≤ 254 := by
      intro i
      induction i with
      | zero => intro q hq; simp [pfS] at hq
      | succ i ih =>
        intro q hq
        simp only [pfS, List.mem_append] at hq
        rcases hq with hq | hq
        · exact ih q hq
        · have h4 := prs_mem.1 hq
          have := dnS_le b1 b2 b3 b4 i
          omega
    rcases List.mem_append.1 hq2 with k | k
    · have := key i q k; omega
    · unfold pkS at k
      rw [List.mem_map] at k
      obtain ⟨x, hx, rfl⟩ := k
      rw [List.mem_range] at hx
      simp only
      omega
set_option maxRecDepth 4000 in
set_option maxHeartbeats 16000000 in
theorem stopsOf_any {pb po b o cap m n fN tN : Nat} {l : List Int} (f t e u : Int) (hf : f = (fN : Int)) (ht : t = (tN : Int)) (w : World) (hp : PtR w pb po m n (.slice (some ⟨b, o, none⟩) l.length cap)) (h : Rs w b o cap l) (ok : Ok l m n) (hfN : fN < l.length) (htN : tN < l.length) : Calls Tryd.prog 23 #[.pointer (some ⟨pb, po, none⟩), loV f t e u] w fun ee w' => ∃ v, ee = .returned v ∧ OV w' (gK l m n (fN % m) (fN / m) (tN % m) (tN / m)) v (stL (sts (fN % m) (fN / m) (tN % m) (tN / m))) ∧ Gr w w' := by
  have hm1 := ok.m1
  have hm2 := ok.m2
  have hn2 := ok.n2
  have hlen := ok.len_le
  obtain ⟨d1', d2'⟩ := ok.div hfN
  obtain ⟨d3', d4'⟩ := ok.div htN
  have HGo := hidb (fun (k p : Nat) (kI pI : Int) (hk : kI = (k : Int)) (hpI : pI = (p : Int)) (h1 : 1 ≤ k) (h2 : k < p) (h3 : p ≤ 254) (W : World) (hG : Gr w W) => groundOn_any f t e u kI pI hf ht hk hpI W (hp.below hG.out) (h.below hG.out) ok hfN htN h1 h2 h3)
  obtain ⟨mI, hmI⟩ : ∃ z : Int, z = (m : Int) := ⟨_, rfl⟩
  obtain ⟨t1, t2, t3, t4⟩ := nat_q hf hmI (by omega)
  obtain ⟨t5, t6, t7, t8⟩ := nat_q ht hmI (by omega)
  have E0 : Hid (MF w (w.alloc (.cells #[.int .i64 f, .int .i64 t, .int .i64 e, .int .i64 u] 47)) pb po (.int .i64 mI) (.int .i64 (n : Int)) (.slice (some ⟨b, o, none⟩) l.length cap) [.int .i64 f, .int .i64 t, .int .i64 e, .int .i64 u]) := by
    have hB := ((Gr.refl w).alloc (.cells #[.int .i64 f, .int .i64 t, .int .i64 e, .int .i64 u] 47))
    rw [hmI]
    exact ⟨At.new4 _ _ _ _ _ _, (hp.below hB.out).all, hB, lt_of_cell hp.c0⟩
  have hm0 : ¬ mI = 0 := by omega
  obtain ⟨c0, hc0⟩ : ∃ c, c = fN % m := ⟨_, rfl⟩
  obtain ⟨r0, hr0⟩ : ∃ c, c = fN / m := ⟨_, rfl⟩
  obtain ⟨c1, hc1⟩ : ∃ c, c = tN % m := ⟨_, rfl⟩
  obtain ⟨r1, hr1⟩ : ∃ c, c = tN / m := ⟨_, rfl⟩
  rw [← hc0, ← hr0, ← hc1, ← hr1] at HGo ⊢
  rw [← hc0] at t2 t4 d1'
  rw [← hr0] at t1 t3 d2'
  rw [← hc1] at t6 t8 d3'
  rw [← hr1] at t5 t7 d4'
  generalize gK l m n c0 r0 c1 r1 = G at *
  have HB4 := hidb (show c0 < 128 ∧ c1 < 128 ∧ r0 < 128 ∧ r1 < 128 by omega)
  obtain ⟨q1, hq1⟩ : ∃ z : Int, z = (c0 : Int) := ⟨_, rfl⟩
  obtain ⟨q2, hq2⟩ : ∃ z : Int, z = (r0 : Int) := ⟨_, rfl⟩
  obtain ⟨q3, hq3⟩ : ∃ z : Int, z = (c1 : Int) := ⟨_, rfl⟩
  obtain ⟨q4, hq4⟩ : ∃ z : Int, z = (r1 : Int) := ⟨_, rfl⟩
  rw [← hq1] at t2 t4
  rw [← hq2] at t1 t3
  rw [← hq3] at t6 t8
  rw [← hq4] at t5 t7
  obtain ⟨x, hx, e1⟩ : ∃ z : Int, z = q3 - q1 ∧ IntKind.i64.wrap (q3 - q1) = z := ⟨_, rfl, wrap_in (by omega) (by omega)⟩
  obtain ⟨y, hy, e2⟩ : ∃ z : Int, z = q4 - q2 ∧ IntKind.i64.wrap (q4 - q2) = z := ⟨_, rfl, wrap_in (by omega) (by omega)⟩
  obtain ⟨d, hd, e3⟩ : ∃ z : Int, z = x - y ∧ IntKind.i64.wrap (x - y) = z := ⟨_, rfl, wrap_in (by omega) (by omega)⟩
  have C1 := hidb (fun W => sizeOf_any x (by omega) (by omega) W)
  have C2 := hidb (fun W => sizeOf_any y (by omega) (by omega) W)
  have C3 := hidb (fun W => sizeOf_any d (by omega) (by omega) W)
  have HD : Hid ((x.natAbs : Int) = (dnS c0 r0 c1 r1 0 : Int) ∧ (y.natAbs : Int) = (dnS c0 r0 c1 r1 1 : Int) ∧ (d.natAbs : Int) = (dnS c0 r0 c1 r1 2 : Int)) := by
    refine ⟨?_, ?_, ?_⟩
    · rw [hx, hq3, hq1]; rfl
    · rw [hy, hq4, hq2]; rfl
    · rw [hd, hx, hy, hq3, hq1, hq4, hq2]; rfl
  generalize (x.natAbs : Int) = z1 at *
  generalize (y.natAbs : Int) = z2 at *
  generalize (d.natAbs : Int) = z3 at *
  have HWs := hidb (fun (L : List (Nat × Nat)) (s : Nat × Nat) (v : Value) (hL : L.length ≤ 2000 ∧ ∀ q ∈ L, q.1 ≤ 1000 ∧ q.2 ≤ 1000) (h1 : s.1 ≤ 1000) (h2 : s.2 ≤ 1000) (aI bI : Int) (ha : aI = (s.1 : Int)) (hb : bI = (s.2 : Int)) (W : World) (hO : OV W G v L) => withStop_ov G (by have := hL.1; omega) h1 h2 hL.2 aI bI (G s) ha hb rfl W hO)
  generalize l.length = N at *
  clear hmI hq1 hq2 hq3 hq4 hc0 hr0 hc1 hr1 hx hy hd hm1 hm2 hn2 hlen d1' d2' d3' d4' hf ht hp h ok hfN htN
  show Calls Tryd.prog 23 #[_, .agg #[.int .i64 f, .int .i64 t, .int .i64 e, .int .i64 u]] w _
  go_enter Tryd.func23, Tryd.ntmps23
  go_upto_region 1 with fail
  obtain ⟨⟨p0, p1, p2⟩, k0, k1, k2, k3⟩ := E0.out.all
  go_quiet (fail)
  go_upto_region 2 with fail
  clear p0 p1 p2 k0 k1 k2 k3
  generalize hw1 : World.drewN _ _ = w1
  replace E0 := hidb (E0.out.drewN hw1)
  clear hw1
  obtain ⟨⟨p0, p1, p2⟩, k0, k1, k2, k3⟩ := E0.out.all
  go_quiet (fail)
  go_upto_region 3 with fail
  clear p0 p1 p2 k0 k1 k2 k3
  generalize hw2 : World.drewN _ _ = w2
  replace E0 := hidb (E0.out.drewN hw2)
  clear hw2
  go_wp2_with fail
  refine (C1.out _).mono ?_
  rintro ee w3 ⟨rfl, rfl⟩
  go_wp2_with fail
  refine (C2.out _).mono ?_
  rintro ee w3 ⟨rfl, rfl⟩
  go_wp2_with fail
  refine (C3.out _).mono ?_
  rintro ee w3 ⟨rfl, rfl⟩
  have S0 : Hid (SO w (w3.alloc (.cells #[.int .i64 z1, .int .i64 z2, .int .i64 z3] 3)) pb po w3.heap.size (.int .i64 mI) (.int .i64 (n : Int)) (.slice (some ⟨b, o, none⟩) N cap) [.int .i64 f, .int .i64 t, .int .i64 e, .int .i64 u] (dnS c0 r0 c1 r1)) := by
    have A := At.new3 w3 (.int .i64 z1) (.int .i64 z2) (.int .i64 z3) 3
    refine ⟨E0.out.alloc _, fun i hi => ?_, A.lt, E0.out.a0.lt⟩
    match i, hi with
    | 0, _ => rw [A.c3.1, HD.out.1]
    | 1, _ => rw [A.c3.2.1, HD.out.2.1]
    | 2, _ => rw [A.c3.2.2, HD.out.2.2]
  clear E0 C1 C2 C3
  go_wp2
  generalize w3.alloc (.cells #[.int .i64 z1, .int .i64 z2, .int .i64 z3] 3) = w4 at *
  generalize w3.heap.size = DB at *
  go_loopw [8, 9] (fun v tt wr => ∃ i : Nat, i ≤ 3 ∧ tt = .int .i64 (i : Int) ∧ Hid (SO w wr pb po DB (.int .i64 mI) (.int .i64 (n : Int)) (.slice (some ⟨b, o, none⟩) N cap) [.int .i64 f, .int .i64 t, .int .i64 e, .int .i64 u] (dnS c0 r0 c1 r1)) ∧ Hid (OV wr G v (stL (pfS c0 r0 c1 r1 i)))) (fun _ tt _ => 3 - (intOf tt).toNat)
  case atStart => exact ⟨0, Nat.zero_le _, rfl, S0, hidb (.inl ⟨rfl, rfl⟩)⟩
  case round =>
    clear S0
    obtain ⟨i, hi, rfl, E, O⟩ := hrel
    by_cases h1 : ¬ i < 3
    · have h1' : ¬ (i : Int) < 3 := by omega
      have HO1 := O.out
      rw [show i = 3 by omega, pfS_3] at HO1
      have HO := hidb HO1
      clear HO1
      clear h1 O
      go_wp2
      go_ret
      exact ⟨_, rfl, HO.out, E.out.m.gr⟩
    · have h1' : (i : Int) < 3 := by omega
      have hi3 : i < 3 := by omega
      have Hi := hidb hi3
      have ix := iindex DB 0 3 3 i hi3
      rw [Nat.zero_add] at ix
      have HDc := hidb (fun W (k : SO w W pb po DB (.int .i64 mI) (.int .i64 (n : Int)) (.slice (some ⟨b, o, none⟩) N cap) [.int .i64 f, .int .i64 t, .int .i64 e, .int .i64 u] (dnS c0 r0 c1 r1)) => k.d i hi3)
      have e1 : IntKind.i64.wrap ((i : Int) + 1) = ((i + 1 : Nat) : Int) := by rw [show (i : Int) + 1 = ((i + 1 : Nat) : Int) by omega]; exact wrap_in (by omega) (by omega)
      obtain ⟨dI, hdI⟩ : ∃ z : Int, z = (dnS c0 r0 c1 r1 i : Int) := ⟨_, rfl⟩
      rw [← hdI] at HDc
      have HdI := hidb hdI
      have HDl := hidb (dnS_le HB4.out.1 HB4.out.2.1 HB4.out.2.2.1 HB4.out.2.2.2 i)
      clear h1 hdI hi3
      go_wp2
      go_loopw [8, 10] (fun v tt wr => ∃ (j : Nat) (kI : Int), tt = .int .i64 kI ∧ Hid (kI = ((j + 1 : Nat) : Int) ∧ j ≤ dnS c0 r0 c1 r1 i - 1) ∧ Hid (SO w wr pb po DB (.int .i64 mI) (.int .i64 (n : Int)) (.slice (some ⟨b, o, none⟩) N cap) [.int .i64 f, .int .i64 t, .int .i64 e, .int .i64 u] (dnS c0 r0 c1 r1)) ∧ Hid (OV wr G v (stL (pfS c0 r0 c1 r1 i ++ pkS (dnS c0 r0 c1 r1 i) j)))) (fun _ tt _ => (dI - intOf tt).toNat)
      case atStart => exact ⟨0, 1, rfl, hidb ⟨rfl, Nat.zero_le _⟩, E, hidb (by rw [show pkS (dnS c0 r0 c1 r1 i) 0 = [] from rfl, List.append_nil]; exact O.out)⟩
      case round =>
        clear E O
        obtain ⟨j, kI, rfl, Hk, E, O⟩ := hrel
        have cd := HDc.out _ E.out
        by_cases h2 : ¬ kI < dI
        · have HO1 := O.out
          rw [show j = dnS c0 r0 c1 r1 i - 1 by have h3 := Hk.out; have h4 := HdI.out; omega, pkS_prs, show pfS c0 r0 c1 r1 i ++ prs (dnS c0 r0 c1 r1 i) = pfS c0 r0 c1 r1 (i + 1) from rfl] at HO1
          have HO := hidb HO1
          clear HO1
          clear O
          go_wp2
          go_roundw
          case rel => exact ⟨i + 1, Hi.out, by go_num, E, HO⟩
          case measure => have := Hi.out; simp [intOf]; omega
        · have h2' : kI < dI := Classical.not_not.1 h2
          have hjd : j + 1 < dnS c0 r0 c1 r1 i := by have := Hk.out.1; have := HdI.out; omega
          have HC := hidb (fun W (hG : Gr w W) => HGo.out (j + 1) (dnS c0 r0 c1 r1 i) kI dI Hk.out.1 HdI.out (by omega) hjd HDl.out W hG)
          have HW := hidb (fun W v (hO : OV W G v (stL (pfS c0 r0 c1 r1 i ++ pkS (dnS c0 r0 c1 r1 i) j))) => HWs.out _ (j + 1, dnS c0 r0 c1 r1 i) v (stL_bd HB4.out.1 HB4.out.2.1 HB4.out.2.2.1 HB4.out.2.2.2 Hi.out Hk.out.2) (by simp only; have := HDl.out; omega) (by simp only; have := HDl.out; omega) kI dI Hk.out.1 HdI.out W hO)
          rw [← stL_snoc, List.append_assoc, ← pkS_succ] at HW
          obtain ⟨gI, hgI⟩ : ∃ z, z = G (j + 1, dnS c0 r0 c1 r1 i) := ⟨_, rfl⟩
          rw [← hgI] at HC HW
          obtain ⟨k2, hk2, e2⟩ : ∃ z : Int, z = kI + 1 ∧ IntKind.i64.wrap (kI + 1) = z := ⟨_, rfl, wrap_in (by have := Hk.out.1; omega) (by have := HdI.out; have := HDl.out; omega)⟩
          have HK2 : Hid (k2 = ((j + 1 + 1 : Nat) : Int) ∧ j + 1 ≤ dnS c0 r0 c1 r1 i - 1) := ⟨by have := Hk.out.1; omega, by omega⟩
          have HM := hidb (show kI < k2 ∧ kI < dI by omega)
          have hblt : DB < wr.heap.size := E.out.lt.1
          clear hjd h2 hk2 hgI
          go_upto_region 11 with fail
          go_cut [11] from 63 to 76 (fun s11 wx => ∃ D, s11 = .pointer (some ⟨D, 0, none⟩) ∧ Hid (At wx D [.int .i64 kI, .int .i64 dI, .int .i64 gI] ∧ SP w wr wx pb po DB (.int .i64 mI) (.int .i64 (n : Int)) (.slice (some ⟨b, o, none⟩) N cap) [.int .i64 f, .int .i64 t, .int .i64 e, .int .i64 u] (dnS c0 r0 c1 r1)))
          case first =>
            have E2 : SP w wr wr pb po DB (.int .i64 mI) (.int .i64 (n : Int)) (.slice (some ⟨b, o, none⟩) N cap) [.int .i64 f, .int .i64 t, .int .i64 e, .int .i64 u] (dnS c0 r0 c1 r1) := ⟨E.out, Gr.refl _, hblt⟩
            have HDw := fun W (k : SP w wr W pb po DB (.int .i64 mI) (.int .i64 (n : Int)) (.slice (some ⟨b, o, none⟩) N cap) [.int .i64 f, .int .i64 t, .int .i64 e, .int .i64 u] (dnS c0 r0 c1 r1)) => HDc.out W k.so
            clear E cd
            go_region_held (fun w' => w'.cell? ⟨DB, i, none⟩ = some (.int .i64 dI) ∧ w'.cell? ⟨w.heap.size, 0, none⟩ = some (.int .i64 f) ∧ w'.cell? ⟨w.heap.size, 1, none⟩ = some (.int .i64 t) ∧ w'.cell? ⟨w.heap.size, 2, none⟩ = some (.int .i64 e) ∧ w'.cell? ⟨w.heap.size, 3, none⟩ = some (.int .i64 u))
              (with_reducible first | exact ⟨HDw _ E2, E2.so.m.a0.c4⟩ | exact ⟨HDw _ E2.drew, E2.drew.so.m.a0.c4⟩ | exact ⟨HDw _ (E2.alloc _), (E2.alloc _).so.m.a0.c4⟩ | exact ⟨HDw _ (E2.alloc _).drew, (E2.alloc _).drew.so.m.a0.c4⟩ | exact ⟨HDw _ (E2.drew.alloc _), (E2.drew.alloc _).so.m.a0.c4⟩ | exact ⟨HDw _ (((E2.set NL _ _).set NL _ _).set NL _ _), (((E2.set NL _ _).set NL _ _).set NL _ _).so.m.a0.c4⟩ | exact ⟨HDw _ (((E2.set NL _ _).set NL _ _).set NL _ _).drew, (((E2.set NL _ _).set NL _ _).set NL _ _).drew.so.m.a0.c4⟩)
              ((first
                | (go_at_call 47; with_reducible refine (HC.out _ (by with_reducible first | exact E2.so.m.gr | exact E2.drew.so.m.gr | exact (E2.alloc _).so.m.gr | exact (E2.alloc _).drew.so.m.gr | exact (E2.drew.alloc _).so.m.gr)).mono ?_; rintro ee w8 ⟨rfl, hB8⟩; (with_reducible first | (have NA := At.below hB8.out (At.new3d' _ _ _ _ _); have NL := E2.gw.out.size) | (have NA := At.below hB8.out (At.drew (At.new3 _ _ _ _ _)); have NL := E2.gw.out.size) | (have NA := At.below hB8.out (At.new3 _ _ _ _ _); have NL := E2.gw.out.size) | skip); (with_reducible first | replace E2 := E2.below hB8.out | replace E2 := E2.drew.below hB8.out | replace E2 := (E2.alloc _).below hB8.out | replace E2 := (E2.drew.alloc _).below hB8.out | replace E2 := (E2.alloc _).drew.below hB8.out); clear hB8; (first | (obtain ⟨n0, n1, n2⟩ := NA.c3; obtain ⟨n3, n4, n5⟩ := NA.fz3; have NH := NA.has (n := 3) rfl) | skip))
                | fail))
            all_goals
              go_wp2_with fail
              go_meet
              refine ⟨_, rfl, ?_, ?_⟩
            all_goals with_reducible first | exact At.new3 _ _ _ _ _ | exact (At.new3 _ _ _ _ _).drew | exact At.new3d' _ _ _ _ _ | exact At.fill3 NH _ _ _ | exact (At.fill3 NH _ _ _).drew | exact E2.alloc _ | exact (E2.alloc _).drew | exact E2.drew.alloc _ | exact ((E2.set NL _ _).set NL _ _).set NL _ _ | exact (((E2.set NL _ _).set NL _ _).set NL _ _).drew
          case rest =>
            obtain ⟨D, rfl, EA⟩ := hcut
            obtain ⟨n0, n1, n2⟩ := EA.out.1.c3
            have O2 := hidb (HW.out _ _ (O.out.below EA.out.2.gw.out))
            clear cd E
            go_wp2_with fail
            refine O2.out.mono ?_
            rintro ee w8 ⟨v9, rfl, hTV, hB8⟩
            have E3 := hidb (EA.out.2.so.below hB8.out)
            have O3 : Hid (OV w8 G v9 (stL (pfS c0 r0 c1 r1 i ++ pkS (dnS c0 r0 c1 r1 i) (j + 1)))) := .inr ⟨by rw [pkS_succ, ← List.append_assoc, stL_snoc]; exact wsP_pos _ _, hTV⟩
            clear n0 n1 n2 hTV hB8 EA O2
            go_wp2
            go_roundw
            case rel => exact ⟨j + 1, k2, rfl, HK2, E3, O3⟩
            case measure => have := HM.out; simp [intOf]; omega
end Go.Proofs.YtpdiefmmenfpaaaDoor
