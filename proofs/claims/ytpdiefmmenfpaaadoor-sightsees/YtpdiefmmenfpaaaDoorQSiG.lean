/-
  sight.line's need.
-/
import Derived.Test.YtpdiefmmenfpaaaDoorQSiF
namespace Go.Proofs.YtpdiefmmenfpaaaDoor
open Go.RowKit Go.Shelf
attribute [local go_sem] Oper.semAt_some

/-- A number over another one, in its lowest terms. -/
def ndN (s : Int × Nat) : Int := (rn s.1.natAbs s.2 : Int)
def ndD (s : Int × Nat) : Int := (rd s.1.natAbs s.2 : Int)
theorem nd_eq {s : Int × Nat} (h0 : 0 ≤ s.1) (h1 : 1 ≤ s.2) : ndN s * s.2 = s.1 * ndD s ∧ 1 ≤ ndD s ∧ 0 ≤ ndN s := by
  unfold ndN ndD rn rd
  obtain ⟨k, hk⟩ : ∃ k : Nat, s.1 = (k : Int) := ⟨s.1.toNat, by omega⟩
  rw [hk, Int.natAbs_natCast]
  generalize s.2 = d at *
  have hg : 0 < Nat.gcd k d := Nat.gcd_pos_of_pos_right _ h1
  obtain ⟨a, ha⟩ := Nat.gcd_dvd_left k d
  obtain ⟨c, hc⟩ := Nat.gcd_dvd_right k d
  generalize Nat.gcd k d = g at *
  have e1 : k / g = a := by rw [ha]; exact Nat.mul_div_cancel_left _ hg
  have e2 : d / g = c := by rw [hc]; exact Nat.mul_div_cancel_left _ hg
  rw [e1, e2]
  refine ⟨?_, ?_, Int.natCast_nonneg _⟩
  · rw [← Int.natCast_mul, ← Int.natCast_mul, ha, hc, Nat.mul_comm g c, Nat.mul_right_comm g a c, Nat.mul_comm a (c * g), Nat.mul_comm g c, Nat.mul_right_comm]
  · have : c ≠ 0 := fun e => by rw [e] at hc; omega
    omega
/-- What need leaves in memory between two rounds. -/
structure NI (W : World) (B : Nat) (L : List Value) (s : Int × Nat) : Prop where
  l : At W B L
  r : At W (B + 1) [.int .i64 0, .int .i64 0]
  n : At W (B + 1 + 1) [.int .i64 s.1]
  d : At W (B + 1 + 1 + 1) [.int .i64 (s.2 : Int)]
theorem NI.kept {W W' : World} {row : Option Nat} {B : Nat} {L : List Value} {s : Int × Nat} (h : NI W B L s) (hg : W.grownBy W' row) (hr : ∀ r, row = some r → ∃ o : Obj, W.heap[r]? = some o ∧ o.isCells = false) : NI W' B L s := ⟨h.l.kept hg hr, h.r.kept hg hr, h.n.kept hg hr, h.d.kept hg hr⟩
theorem NI.below {W W' : World} {B : Nat} {L : List Value} {s : Int × Nat} (h : NI W B L s) (hB : Below W.heap.size W W') : NI W' B L s := ⟨At.below hB h.l, At.below hB h.r, At.below hB h.n, At.below hB h.d⟩
theorem NI.put {W : World} {B : Nat} {L : List Value} {s : Int × Nat} (h : NI W B L s) (t : Int × Nat) : NI ((W.setCell ⟨B + 1 + 1, 0, none⟩ (.int .i64 t.1)).setCell ⟨B + 1 + 1 + 1, 0, none⟩ (.int .i64 (t.2 : Int))) B L t :=
  ⟨(h.l.skip (by omega) _ _).skip (by omega) _ _, (h.r.skip (by omega) _ _).skip (by omega) _ _, (At.fill1 (h.n.has rfl) _).skip (by omega) _ _, At.fill1 ((h.d.skip (by omega) _ _).has rfl) _⟩
theorem ndK_bd {L : Nat × Nat → Int} {c0 r0 c1 r1 : Nat} (hL : ∀ p ∈ sts c0 r0 c1 r1, L p ≤ 2000000000) (hp : ∀ p ∈ sts c0 r0 c1 r1, p.1 ≤ 254) (pre : List (St c0 r0 c1 r1)) : (0 ≤ (ndK L (pre.map Subtype.val)).1 ∧ (ndK L (pre.map Subtype.val)).1 ≤ 2000000000) ∧ 1 ≤ (ndK L (pre.map Subtype.val)).2 ∧ (ndK L (pre.map Subtype.val)).2 ≤ 254 := by
  have I := NdI.all' L (pre.map Subtype.val) (fun q hq => by obtain ⟨q', -, rfl⟩ := List.mem_map.1 hq; exact (sts_in q'.2).1)
  refine ⟨⟨I.num, ?_⟩, I.den, ?_⟩
  · rcases I.one with e | ⟨p, hpp, e⟩
    · rw [e]; simp
    · obtain ⟨q', -, rfl⟩ := List.mem_map.1 hpp
      rw [e]; exact hL _ q'.2
  · rcases I.one with e | ⟨p, hpp, e⟩
    · rw [e]; simp
    · obtain ⟨q', -, rfl⟩ := List.mem_map.1 hpp
      rw [e]; exact hp _ q'.2
theorem make_nd (s : Int × Nat) (h0 : 0 ≤ s.1) (h1 : s.1 ≤ 2000000000) (h2 : 1 ≤ s.2) (h3 : s.2 ≤ 254) (w : World) : Calls Tryd.prog 41 #[.int .i64 s.1, .int .i64 (s.2 : Int)] w fun e w' => e = .returned (.tuple #[.agg #[.int .i64 (ndN s), .int .i64 (ndD s)], .nilIface]) ∧ Gr w w' := by
  have C := make_ok s.1 (s.2 : Int) (by omega) (by omega) (by omega) (by omega) (by omega) ⟨by have := rn_le s.1.natAbs (Int.natAbs (s.2 : Int)); omega, by have := rd_le s.1.natAbs (Int.natAbs (s.2 : Int)); omega⟩ w
  rw [Int.natAbs_natCast, decide_eq_false (show ¬ s.1 < 0 by omega), decide_eq_false (show ¬ (s.2 : Int) < 0 by omega)] at C
  exact C
theorem ndK_step (lk : Nat × Nat → Int) {c0 r0 c1 r1 : Nat} (pre : List (St c0 r0 c1 r1)) (p : St c0 r0 c1 r1) : ndK lk ((pre ++ [p]).map Subtype.val) = if (ndK lk (pre.map Subtype.val)).1 * p.1.1 < lk p.1 * (ndK lk (pre.map Subtype.val)).2 then (lk p.1, p.1.1) else ndK lk (pre.map Subtype.val) := by
  rw [List.map_append, List.map_cons, List.map_nil, ndK_snoc]
  rfl
set_option maxRecDepth 100000 in
set_option maxHeartbeats 8000000 in
theorem need_any {b o cap m n c0 r0 c1 r1 : Nat} {l : List Int} (x y : Int) (w : World) (h : Rs w b o cap l) (ok : Ok l m n) (hc0 : c0 < m) (hc1 : c1 < m) (hr0 : r0 < n) (hr1 : r1 < n) (hx : hiE x) (hy : hiE y) : Calls Tryd.prog 54 #[lnV m n (.slice (some ⟨b, o, none⟩) l.length cap) (c0 : Int) (r0 : Int) ((c1 : Int) - c0) ((r1 : Int) - r0) x y] w fun e w' => e = .returned (.tuple #[.agg #[.int .i64 (ndN (ndK (lkK l m n c0 r0 c1 r1 x y) (sts c0 r0 c1 r1))), .int .i64 (ndD (ndK (lkK l m n c0 r0 c1 r1 x y) (sts c0 r0 c1 r1)))], .nilIface]) ∧ Gr w w' := by
  have hm2 := ok.m2
  have hn2 := ok.n2
  have HB4 := hidb (show c0 < 128 ∧ c1 < 128 ∧ r0 < 128 ∧ r1 < 128 by omega)
  have HLk := hidb (fun (p : St c0 r0 c1 r1) (W : World) (hG : Gr w W) => lack_any (k := p.1.1) (p := p.1.2) x y W (h.below hG.out) ok hc0 hc1 hr0 hr1 hx hy (p.bd HB4.out.1 HB4.out.2.1 HB4.out.2.2.1 HB4.out.2.2.2).1 (p.bd HB4.out.1 HB4.out.2.1 HB4.out.2.2.1 HB4.out.2.2.2).2.1 (p.bd HB4.out.1 HB4.out.2.1 HB4.out.2.2.1 HB4.out.2.2.2).2.2)
  have HLb : Hid (∀ p ∈ sts c0 r0 c1 r1, (-2000000000 ≤ lkK l m n c0 r0 c1 r1 x y p ∧ lkK l m n c0 r0 c1 r1 x y p ≤ 2000000000) ∧ p.1 ≤ 254) := fun p hp => ⟨lkK_bd ok.hi hx hy (sts_in hp).1 (sts_in hp).2 (sts_le hp HB4.out.1 HB4.out.2.1 HB4.out.2.2.1 HB4.out.2.2.2), by have := (sts_in hp).2; have := sts_le hp HB4.out.1 HB4.out.2.1 HB4.out.2.2.1 HB4.out.2.2.2; omega⟩
  obtain ⟨lk, hlk⟩ : ∃ f, f = lkK l m n c0 r0 c1 r1 x y := ⟨_, rfl⟩
  have HLp : Hid (∀ (p : St c0 r0 c1 r1) (W : World), Gr w W → Calls Tryd.prog 60 #[lnV m n (.slice (some ⟨b, o, none⟩) l.length cap) (c0 : Int) (r0 : Int) ((c1 : Int) - c0) ((r1 : Int) - r0) x y, .int .i64 (p.1.1 : Int), .int .i64 (p.1.2 : Int)] W fun e w' => e = .returned (.int .i64 (lk p.1)) ∧ Gr W w') := by rw [hlk]; exact HLk.out
  rw [← hlk] at HLb ⊢
  have HNb := hidb (ndK_bd (L := lk) (fun p hp => (HLb.out p hp).1.2) (fun p hp => (HLb.out p hp).2))
  obtain ⟨eI, heI⟩ : ∃ z : Int, z = (c1 : Int) - c0 := ⟨_, rfl⟩
  obtain ⟨sI, hsI⟩ : ∃ z : Int, z = (r1 : Int) - r0 := ⟨_, rfl⟩
  have HE := hidb (show eI = (c1 : Int) - c0 ∧ sI = (r1 : Int) - r0 from ⟨heI, hsI⟩)
  rw [← heI, ← hsI] at HLp ⊢
  generalize l.length = N at *
  obtain ⟨cI, hcI⟩ : ∃ z : Int, z = (c0 : Int) := ⟨_, rfl⟩
  obtain ⟨rI, hrI⟩ : ∃ z : Int, z = (r0 : Int) := ⟨_, rfl⟩
  rw [← hcI, ← hrI] at HLp ⊢
  clear hm2 hn2 HLk hlk heI hsI hcI hrI h ok hc0 hc1 hr0 hr1 hx hy
  refine (callsIn_wide (n := 3)).1 ?_
  refine callsIn_of_wp_marks Tryd.func54 rfl trivial ?_ rfl
  simp only [Tryd.ntmps54, List.size_toArray, List.length_cons, List.length_nil, Nat.reduceAdd, Nat.reduceSub, Array.replicate_succ, Array.replicate_zero, List.push_toArray, List.append_toArray, List.nil_append, List.cons_append]
  gi_wp2_with fail
  refine ⟨trivial, (stopsM_in Fence.wide 2 trivial rfl m n (.slice (some ⟨b, o, none⟩) N cap) cI rI eI sI x y _).mono ?_⟩
  rintro e w' ⟨rfl, rfl⟩
  gi_wp2
  have A0 := At.newRow w (lnC m n (.slice (some ⟨b, o, none⟩) N cap) cI rI eI sI x y) 78
  have A1 := ((A0.alloc (.cells #[.int .i64 0, .int .i64 0] 28)).alloc (.cells #[.int .i64 0] 3)).alloc (.cells #[.int .i64 1] 3)
  have R1 := ((At.nx2 (W := w) (.cells (lnC m n (.slice (some ⟨b, o, none⟩) N cap) cI rI eI sI x y).toArray 78) (.int .i64 0) (.int .i64 0) 28).alloc (.cells #[.int .i64 0] 3)).alloc (.cells #[.int .i64 1] 3)
  have N1 := (At.ny1 (W := w) (.cells (lnC m n (.slice (some ⟨b, o, none⟩) N cap) cI rI eI sI x y).toArray 78) (.cells #[.int .i64 0, .int .i64 0] 28) (.int .i64 0) 3).alloc (.cells #[.int .i64 1] 3)
  have D1 := At.new1 (((w.alloc (.cells (lnC m n (.slice (some ⟨b, o, none⟩) N cap) cI rI eI sI x y).toArray 78)).alloc (.cells #[.int .i64 0, .int .i64 0] 28)).alloc (.cells #[.int .i64 0] 3)) (.int .i64 1) 3
  have hs0 : (((w.alloc (.cells (lnC m n (.slice (some ⟨b, o, none⟩) N cap) cI rI eI sI x y).toArray 78)).alloc (.cells #[.int .i64 0, .int .i64 0] 28)).alloc (.cells #[.int .i64 0] 3)).heap.size = w.heap.size + 1 + 1 + 1 := by simp
  rw [hs0] at D1
  have G1 := ((((Gr.refl w).alloc (.cells (lnC m n (.slice (some ⟨b, o, none⟩) N cap) cI rI eI sI x y).toArray 78)).alloc (.cells #[.int .i64 0, .int .i64 0] 28)).alloc (.cells #[.int .i64 0] 3)).alloc (.cells #[.int .i64 1] 3)
  have hs1 : ((((w.alloc (.cells (lnC m n (.slice (some ⟨b, o, none⟩) N cap) cI rI eI sI x y).toArray 78)).alloc (.cells #[.int .i64 0, .int .i64 0] 28)).alloc (.cells #[.int .i64 0] 3)).alloc (.cells #[.int .i64 1] 3)).heap.size = w.heap.size + 1 + 1 + 1 + 1 := by simp
  show Code.wpIn _ _ _ _ _ _ (((((w.alloc (.cells (lnC m n (.slice (some ⟨b, o, none⟩) N cap) cI rI eI sI x y).toArray 78)).alloc (.cells #[.int .i64 0, .int .i64 0] 28)).alloc (.cells #[.int .i64 0] 3)).alloc (.cells #[.int .i64 1] 3)).alloc (.cells (lnC m n (.slice (some ⟨b, o, none⟩) N cap) cI rI eI sI x y).toArray 78))
  have I1 : NI ((((w.alloc (.cells (lnC m n (.slice (some ⟨b, o, none⟩) N cap) cI rI eI sI x y).toArray 78)).alloc (.cells #[.int .i64 0, .int .i64 0] 28)).alloc (.cells #[.int .i64 0] 3)).alloc (.cells #[.int .i64 1] 3)) w.heap.size (lnC m n (.slice (some ⟨b, o, none⟩) N cap) cI rI eI sI x y) (0, 1) := ⟨A1, R1, N1, D1⟩
  clear A0 A1 R1 N1 D1 hs0
  generalize (((w.alloc (.cells (lnC m n (.slice (some ⟨b, o, none⟩) N cap) cI rI eI sI x y).toArray 78)).alloc (.cells #[.int .i64 0, .int .i64 0] 28)).alloc (.cells #[.int .i64 0] 3)).alloc (.cells #[.int .i64 1] 3) = w2 at *
  have B3 := At.newRow w2 (lnC m n (.slice (some ⟨b, o, none⟩) N cap) cI rI eI sI x y) 78
  have G3 := G1.alloc (.cells (lnC m n (.slice (some ⟨b, o, none⟩) N cap) cI rI eI sI x y).toArray 78)
  have I3 := I1.below ((Gr.refl w2).alloc (.cells (lnC m n (.slice (some ⟨b, o, none⟩) N cap) cI rI eI sI x y).toArray 78)).out
  rw [hs1] at B3
  clear G1 I1
  generalize w2.alloc (.cells (lnC m n (.slice (some ⟨b, o, none⟩) N cap) cI rI eI sI x y).toArray 78) = w3 at *
  have hwl := G3.out.size
  have hw3 := B3.lt
  have hcE := B3.c9.2.2.2.2.2.1
  have hcS := B3.c9.2.2.2.2.2.2.1
  rw [HE.out.1] at hcE
  rw [HE.out.2] at hcS
  refine wpIn_rangeFunc_ownG (α := St c0 r0 c1 r1) rfl (by decide) (gf := 61) (lb := #[.pointer (some ⟨w.heap.size + 1 + 1 + 1 + 1, 0, none⟩)]) rfl trivial (enters_of Tryd.func61 (by kernel_rfl) rfl)
    (stops_stops 2 (by decide) (w.heap.size + 1 + 1 + 1 + 1) HB4.out.1 HB4.out.2.1 HB4.out.2.2.1 HB4.out.2.2.2 w3 B3.lt hcE hcS) (fun _ _ => trivial) (fun _ _ _ _ _ _ _ _ => trivial) (Below.refl _ _) (fun _ => rfl)
    (fun pre W => NI W w.heap.size (lnC m n (.slice (some ⟨b, o, none⟩) N cap) cI rI eI sI x y) (ndK lk (pre.map Subtype.val)) ∧ Below w.heap.size w W)
    (fun _ _ _ => False)
    (OwnFrom.and (Own.from (fun s A B row hs hg hr => hs.kept hg hr) _) (ownFrom_below (Nat.le_refl _) hwl))
    (fun _ _ _ _ _ hs _ _ => hs)
    ⟨I3, G3.out⟩ ?a1 ?assign ?body ?done ?stop
  case assign =>
    intro l x W K hK
    gi_wp2
    exact hK
  case body =>
    rintro lp pre p W ⟨E, hB⟩ _
    have HC := hidb (HLp.out p W hB)
    have hWl := hB.size
    have hst := ndK_step lk pre p
    have hb1 := HNb.out pre
    have hb2 := (HLb.out p.1 p.2)
    obtain ⟨S, hS⟩ : ∃ S, S = ndK lk (pre.map Subtype.val) := ⟨_, rfl⟩
    rw [← hS] at E hst hb1
    obtain ⟨z0, z1, z2, z3, z4, z5, z6, z7, z8⟩ := E.l.c9
    have HE2 := hidb E
    obtain ⟨v, hv⟩ : ∃ v, v = lk p.1 := ⟨_, rfl⟩
    rw [← hv] at HC hst hb2
    have q1 := mul254 (k := (S.2 : Int)) (x := v) (by omega) (by omega) (M := 2000000000) (by omega) hb2.1
    have q2 := mul254 (k := (p.1.1 : Int)) (x := S.1) (by omega) (by omega) (M := 2000000000) (by omega) (by omega)
    rw [Int.mul_comm (S.2 : Int) v] at q1
    rw [Int.mul_comm (p.1.1 : Int) S.1] at q2
    obtain ⟨dI, hdI⟩ : ∃ v : Int, v = (S.2 : Int) := ⟨_, rfl⟩
    rw [← hdI] at q1
    obtain ⟨a1, t1, e1⟩ : ∃ z : Int, z = v * dI ∧ IntKind.i64.wrap (v * dI) = z := ⟨_, rfl, wrap_in (by omega) (by omega)⟩
    obtain ⟨a2, t2, e2⟩ : ∃ z : Int, z = S.1 * (p.1.1 : Int) ∧ IntKind.i64.wrap (S.1 * (p.1.1 : Int)) = z := ⟨_, rfl, wrap_in (by omega) (by omega)⟩
    rw [← hdI, ← t1, ← t2] at hst
    have HP := hidb (show v = lk p.1 ∧ dI = (S.2 : Int) from ⟨hv, hdI⟩)
    have HS := hidb hst
    clear E hv hS hst hb1 hb2 q1 q2 t1 t2 hdI
    gi_wp2_with fail
    refine ⟨trivial, (CallsIn.inRound lp (callsIn_wide.2 HC.out)).mono ?_⟩
    rintro e w9 ⟨rfl, hB9⟩
    have E9 := HE2.out.below hB9.out
    have n0 := E9.n.c1
    have nz := E9.n.fz1
    have d0 := E9.d.c1
    have dz := E9.d.fz1
    rw [← HP.out.2] at d0
    clear z0 z1 z2 z3 z4 z5 z6 z7 z8
    by_cases h0 : a2 < a1
    · have hst := HS.out
      rw [if_pos h0] at hst
      have HS2 := hidb hst
      clear hst
      gi_wp2
      refine ⟨((keeps_below hB9.out).trans ((KeepsOthers.setCell _ _ _).trans (KeepsOthers.setCell _ _ _))).from _, trivial, ?_, ((hB.trans (hB9.out.mono hWl)).setCell (p := ⟨w.heap.size + 1 + 1, 0, none⟩) (by simp; omega) _).setCell (p := ⟨w.heap.size + 1 + 1 + 1, 0, none⟩) (by simp; omega) _⟩
      rw [HS2.out]
      exact E9.put (v, p.1.1)
    · have hst := HS.out
      rw [if_neg h0] at hst
      have HS2 := hidb hst
      clear hst
      gi_wp2
      exact ⟨(keeps_below hB9.out).from _, trivial, by rw [HS2.out]; exact E9, hB.trans (hB9.out.mono hWl)⟩
  case done =>
    rintro D ys W hD hys ⟨E, hB⟩ hK
    rw [hys] at E
    have n0 := E.n.c1
    have d0 := E.d.c1
    have hb1 := HNb.out ys
    rw [hys] at hb1
    obtain ⟨S, hS⟩ : ∃ S, S = ndK lk (sts c0 r0 c1 r1) := ⟨_, rfl⟩
    rw [← hS] at E n0 d0 hb1
    have HM := hidb (fun W => make_nd S hb1.1.1 hb1.1.2 hb1.2.1 hb1.2.2 W)
    obtain ⟨dI, hdI⟩ : ∃ v : Int, v = (S.2 : Int) := ⟨_, rfl⟩
    rw [← hdI] at HM d0
    have HS := hidb hS
    have HEE := hidb E
    clear hS E hb1 hdI
    gi_wp2_with fail
    refine ⟨trivial, (callsIn_wide.2 (HM.out _)).mono ?_⟩
    rintro e w9 ⟨rfl, hB9⟩
    have E9 := HEE.out.below hB9.out
    obtain ⟨r0, r1⟩ := E9.r.c2
    obtain ⟨f0, f1⟩ := E9.r.f2
    gi_wp2
    have hK9 := (keeps_below hB9.out).same D _ hK rfl
    have hK' := ((KeepsOthers.setCell w9 ⟨w.heap.size + 1, 0, none⟩ (.int .i64 (ndN S))).trans (KeepsOthers.setCell _ ⟨w.heap.size + 1, 1, none⟩ (.int .i64 (ndD S)))).same D _ hK9 rfl
    refine ⟨by simp, .inl ⟨_, _, rfl, run_takeDeferred hK', ?_⟩⟩
    have A2 := At.kept (At.fill2 (E9.r.has rfl) (.int .i64 (ndN S)) (.int .i64 (ndD S))) (grownBy_putObj' _ D (.deferred none)) (fun r e => by cases e; exact ⟨_, hK', rfl⟩)
    obtain ⟨c0', c1'⟩ := A2.c2
    refine ⟨.tuple #[.agg #[.int .i64 (ndN S), .int .i64 (ndD S)], .nilIface], ?_, by rw [HS.out], (((hB.trans (hB9.out.mono hB.size)).setCell (p := ⟨w.heap.size + 1, 0, none⟩) (by simp) _).setCell (p := ⟨w.heap.size + 1, 1, none⟩) (by simp) _).trans (belowK_b (w := w) (Nat.le_refl _) _ D _ _ (by omega) hK' rfl rfl)⟩
    simp [results, Tryd.f54, go_sem, c0', c1']
  case stop =>
    rintro D c pre W _ _ h _
    exact h.elim
end Go.Proofs.YtpdiefmmenfpaaaDoor
