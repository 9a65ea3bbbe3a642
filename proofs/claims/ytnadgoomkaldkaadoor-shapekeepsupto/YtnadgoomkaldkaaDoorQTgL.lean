/-
  shape.thinner: closed, empty.
-/
import Derived.Test.YtnadgoomkaldkaaDoorQTk
import Derived.Test.YtnadgoomkaldkaaDoorQJ12
import Derived.Test.YtnadgoomkaldkaaDoorQJ11
namespace Go.Proofs.YtnadgoomkaldkaaDoor
open Go.RowKit
attribute [local go_sem ↓] Go.wp_at_zero Go.wp_at_succ

theorem bindex0 (b n cap k : Nat) (hk : k < n) (w : World) : (Instr.indexAt 64 (.slice (some ⟨b, 0, none⟩) n cap) (.int .i64 k)).run Tryd.prog w = .ok (.pointer (some ⟨b, k, none⟩)) w := bindex b n cap k hk w
theorem iindex0 (b n cap k : Nat) (hk : k < n) (w : World) : (Instr.indexAt 37 (.slice (some ⟨b, 0, none⟩) n cap) (.int .i64 k)).run Tryd.prog w = .ok (.pointer (some ⟨b, k, none⟩)) w := by
  have := iindex b 0 n cap k hk w
  rw [Nat.zero_add] at this
  exact this
theorem sindex0 (b n cap k : Nat) (hk : k < n) (w : World) : (Instr.indexAt 43 (.slice (some ⟨b, 0, none⟩) n cap) (.int .i64 k)).run Tryd.prog w = .ok (.pointer (some ⟨b, k * 2, none⟩)) w := by
  have := sindex b 0 n cap k hk w
  rw [Nat.zero_add] at this
  exact this
/-- What is asked of a point ahead of which a triangle is known to be empty. -/
def okE (S : List Sp) (G : List Bool) (a b c : Sp) (y : Nat) : Prop := gn G y = false → sx S y = a ∨ sx S y = b ∨ sx S y = c ∨ ¬ inP a b c (sx S y)
noncomputable def emB (S : List Sp) (G : List Bool) (a b c : Sp) : Bool := @decide (∀ y, y < S.length → okE S G a b c y) (Classical.propDecidable _)
theorem emB_t {S : List Sp} {G : List Bool} {a b c : Sp} (h : ∀ y, y < S.length → okE S G a b c y) : emB S G a b c = true := by unfold emB; exact @decide_eq_true _ (Classical.propDecidable _) h
theorem emB_f {S : List Sp} {G : List Bool} {a b c : Sp} (h : ¬ ∀ y, y < S.length → okE S G a b c y) : emB S G a b c = false := by unfold emB; exact @decide_eq_false _ (Classical.propDecidable _) h
/-- Three points in boxes. -/
structure EB (W W' : World) (Z : Nat) (a b c : Sp) : Prop where
  g : Gr W W'
  a : At W' Z [.int .i64 a.1, .int .i64 a.2]
  b : At W' (Z + 1) [.int .i64 b.1, .int .i64 b.2]
  c : At W' (Z + 1 + 1) [.int .i64 c.1, .int .i64 c.2]
theorem EB.below {W W' W2 : World} {Z : Nat} {a b c : Sp} (h : EB W W' Z a b c) (hB : Below W'.heap.size W' W2) : EB W W2 Z a b c := ⟨Gr.step h.g hB, At.below hB h.a, At.below hB h.b, At.below hB h.c⟩
section
variable {w W : World} {T SP cS GO CL AR cA : Nat} {B cp : Nat → Nat} {most : Int} {S : List Sp} {A : List (List Nat)} {G : List Bool} {C : List Nat}
set_option maxRecDepth 4000 in
set_option maxHeartbeats 8000000 in
theorem closed_any (h : TH w W T SP cS GO CL AR cA B cp most S A G C) (hN : NI S A G C) {i : Nat} (hi : i < A.length) (h0 : 0 < (ax A i).length) (hl : (ax A i).length ≤ 5000) (_hSl : S.length ≤ 5000) : Calls Tryd.prog 70 #[.pointer (some ⟨T, 0, none⟩), .slice (some ⟨B i, 0, none⟩) (ax A i).length (cp i)] W fun e w' => e = .returned (.bool (decide (sx S (nn A i 0) = sx S (nn A i ((ax A i).length - 1))))) ∧ Gr W w' := by
  obtain ⟨-, t1, -, -, -⟩ := at5 h.t
  have n0 := (h.num hi (m := 0) h0).1
  have n1 := (h.num hi (m := (ax A i).length - 1) (by omega)).1
  have y0 := hN.lt i hi 0 h0
  have y1 := hN.lt i hi ((ax A i).length - 1) (by omega)
  have p0 := h.pt y0
  have p1 := h.pt y1
  have i0 := fun w => iindex0 (B i) (ax A i).length (cp i) 0 h0 w
  have i1 := fun w => iindex0 (B i) (ax A i).length (cp i) ((ax A i).length - 1) (by omega) w
  have s0 := fun w => sindex0 SP S.length cS _ y0 w
  have s1 := fun w => sindex0 SP S.length cS _ y1 w
  have em : IntKind.i64.wrap (((ax A i).length : Int) - 1) = (((ax A i).length - 1 : Nat) : Int) := by rw [show ((ax A i).length : Int) - 1 = (((ax A i).length - 1 : Nat) : Int) by omega]; exact wr_in (by omega) (by omega)
  have HG := hidb (Gr.refl W)
  push_cast at i0
  generalize (ax A i).length - 1 = l1 at *
  generalize (ax A i).length = L at *
  generalize nn A i 0 = x0 at *
  generalize nn A i l1 = x1 at *
  have ge := sp_eq (sx S x0) (sx S x1)
  generalize sx S x0 = P0 at *
  generalize sx S x1 = P1 at *
  generalize hu0 : x0 * 2 = u0 at *
  generalize hu1 : x1 * 2 = u1 at *
  obtain ⟨p0a, p0b⟩ := p0
  obtain ⟨p1a, p1b⟩ := p1
  generalize S.length = n at *
  generalize B i = Bi at *
  generalize cp i = ci at *
  clear h hN hi h0 hl y0 y1 hu0 hu1 _hSl
  by_cases c : P0 = P1
  · rw [decide_eq_true c] at ge ⊢
    clear c
    go_enter Tryd.func70, Tryd.ntmps70
    go_upto_region 1 with fail
    go_region
    go_wp2
    go_ret
    exact ⟨rfl, HG.out.drew⟩
  · rw [decide_eq_false c] at ge ⊢
    clear c
    go_enter Tryd.func70, Tryd.ntmps70
    go_upto_region 1 with fail
    go_region
    go_wp2
    go_ret
    exact ⟨rfl, HG.out.drew⟩
set_option maxRecDepth 4000 in
set_option maxHeartbeats 16000000 in
theorem empty_any (h : TH w W T SP cS GO CL AR cA B cp most S A G C) (hN : NI S A G C) {x : Nat} (hx : x < S.length) {a b c : Sp} (ha : okS a) (hb : okS b) (hc : okS c) (hS : ∀ y, y < S.length → okS (sx S y)) (hSl : S.length ≤ 5000) (hk : ∀ y, y < cl C x → okE S G a b c y) : Calls Tryd.prog 71 #[.pointer (some ⟨T, 0, none⟩), .int .i64 (x : Int), sv a, sv b, sv c] W fun e w' => ∃ v : Nat, e = .returned (.bool (emB S G a b c)) ∧ v ≤ S.length ∧ (∀ y, y < v → okE S G a b c y) ∧ TH w w' T SP cS GO CL AR cA B cp most S A G (C.set x v) ∧ Ow CL W w' := by
  have HT := hidb h
  have HGl := hidb (And.intro hN.gl hN.cll)
  have HIn := hidb (fun y (hy : y < S.length) W => inside_any ha hb hc (hS y hy) W)
  have HX := hidb hx
  have HSl := hidb hSl
  have E0 : Hid (Gr W (((W.alloc (.cells #[.int .i64 a.1, .int .i64 a.2] 52)).alloc (.cells #[.int .i64 b.1, .int .i64 b.2] 52)).alloc (.cells #[.int .i64 c.1, .int .i64 c.2] 52)) ∧ At (((W.alloc (.cells #[.int .i64 a.1, .int .i64 a.2] 52)).alloc (.cells #[.int .i64 b.1, .int .i64 b.2] 52)).alloc (.cells #[.int .i64 c.1, .int .i64 c.2] 52)) W.heap.size [.int .i64 a.1, .int .i64 a.2] ∧ At (((W.alloc (.cells #[.int .i64 a.1, .int .i64 a.2] 52)).alloc (.cells #[.int .i64 b.1, .int .i64 b.2] 52)).alloc (.cells #[.int .i64 c.1, .int .i64 c.2] 52)) (W.heap.size + 1) [.int .i64 b.1, .int .i64 b.2] ∧ At (((W.alloc (.cells #[.int .i64 a.1, .int .i64 a.2] 52)).alloc (.cells #[.int .i64 b.1, .int .i64 b.2] 52)).alloc (.cells #[.int .i64 c.1, .int .i64 c.2] 52)) (W.heap.size + 1 + 1) [.int .i64 c.1, .int .i64 c.2]) :=
    ⟨(((Gr.refl W).alloc _).alloc _).alloc _, ((At.new2 _ _ _ _).alloc _).alloc _, (At.nx2 _ _ _ _).alloc _, At.ny2 _ _ _ _ _⟩
  have HK0 := hidb hk
  have hcb := hN.cb x hx
  obtain ⟨-, t1, t2, t3, -⟩ := at5 h.t
  have c0 := (h.clr (x := x) (by rw [hN.cll]; exact hx)).1
  have HTc := hidb (fun W' (hG : Gr W W') => at5 (At.below hG.out h.t))
  have HCx := hidb (fun W' (hG : Gr W W') => (h.below hG.out).clr (x := x) (by rw [hN.cll]; exact hx))
  have ixc := fun w => iindex0 CL S.length S.length x hx w
  obtain ⟨n, hn⟩ : ∃ n, n = S.length := ⟨_, rfl⟩
  have HNn := hidb hn
  rw [← hn] at ixc HX HSl HIn HTc t1 t2 t3 HGl ⊢
  generalize hv0 : cl C x = v0 at *
  have HV0 := hidb (show v0 ≤ n by rw [hn]; exact hcb)
  have HCu := hidb hv0
  have gA := fun p => sp_ne p a
  have gB := fun p => sp_ne p b
  have gC := fun p => sp_ne p c
  have HNe : Hid ((∀ p w, (binOp .neq 52 (sv p) (sv a)).run Tryd.prog w = .ok (.bool (!decide (p = a))) w) ∧ (∀ p w, (binOp .neq 52 (sv p) (sv b)).run Tryd.prog w = .ok (.bool (!decide (p = b))) w) ∧ (∀ p w, (binOp .neq 52 (sv p) (sv c)).run Tryd.prog w = .ok (.bool (!decide (p = c))) w)) := ⟨gA, gB, gC⟩
  have c0' : W.cell? ⟨CL, x, none⟩ = some (.int .i64 (v0 : Int)) := c0
  clear h hN hx ha hb hc hS hSl hk hcb gA gB gC hn c0 hv0
  go_enter Tryd.func71, Tryd.ntmps71
  go_upto_region 1 with fail
  generalize ((W.alloc (.cells #[.int .i64 a.1, .int .i64 a.2] 52)).alloc (.cells #[.int .i64 b.1, .int .i64 b.2] 52)).alloc (.cells #[.int .i64 c.1, .int .i64 c.2] 52) = W3 at *
  generalize W.heap.size = Z at *
  clear t1 t2 t3 c0'
  obtain ⟨-, t1, t2, t3, -⟩ := HTc.out _ E0.out.1
  have c0 := (HCx.out _ E0.out.1).1
  go_wp2
  clear t1 t2 t3 c0
  have E1 : Hid (EB W W3 Z a b c ∧ ∀ y, y < v0 → okE S G a b c y) := ⟨⟨E0.out.1, E0.out.2.1, E0.out.2.2.1, E0.out.2.2.2⟩, HK0.out⟩
  clear E0
  go_loopw [11] (fun t wr => ∃ y : Nat, y ≤ n ∧ t = .int .i64 (y : Int) ∧ Hid (EB W wr Z a b c ∧ ∀ z, z < y → okE S G a b c z)) (fun t _ => n - (intOf t).toNat)
  case atStart => exact ⟨v0, HV0.out, rfl, E1⟩
  case round =>
    clear E1
    obtain ⟨y, hy, rfl, E⟩ := hrel
    obtain ⟨-, t1, t2, t3, -⟩ := HTc.out _ E.out.1.g
    by_cases h1 : ¬ y < n
    · have h1' : ¬ (y : Int) < (n : Int) := by omega
      have HAll := hidb (show ∀ z, z < n → okE S G a b c z from fun z hz => E.out.2 z (by omega))
      have HE := hidb E.out.1
      clear h1 E t2
      go_upto_region 8 with fail
      clear t1 t3
      refine wp_region_held_drew (S := (fun w' => w'.cell? ⟨T, 0, none⟩ = some (.int .i64 most) ∧ w'.cell? ⟨T, 1, none⟩ = some (.slice (some ⟨SP, 0, none⟩) n cS) ∧ w'.cell? ⟨T, 2, none⟩ = some (.slice (some ⟨GO, 0, none⟩) n n) ∧ w'.cell? ⟨T, 3, none⟩ = some (.slice (some ⟨CL, 0, none⟩) n n) ∧ w'.cell? ⟨T, 4, none⟩ = some (.slice (some ⟨AR, 0, none⟩) A.length cA))) (by kernel_rfl) ?_ (fun hHeld => ?_)
      · (try dsimp only); exact HTc.out _ HE.out.g.drew
      have HTf : Hid (TH w (wr.setCell ⟨CL, x, none⟩ (.int .i64 (n : Int))).drew T SP cS GO CL AR cA B cp most S A G (C.set x n) ∧ Ow CL W (wr.setCell ⟨CL, x, none⟩ (.int .i64 (n : Int))).drew) := ⟨((HT.out.below HE.out.g.out).setC x n).drew, ((Ow.of HE.out.g.out).set _ _).drew⟩
      refine wt (i := 0) (v := ?ve8q0x3) rfl ?he8q0x3 ?re8q0x3
      case he8q0x3 => (intro w hSw; (try dsimp only at hSw); obtain ⟨y0, y1, y2, y3, y4⟩ := hSw; go_simp; try with_reducible rfl)
      (try simp only [Act.put, lq1, lq2, lq4, lq5, lq6])
      refine wt (i := 1) (v := ?ve8q1x6) rfl ?he8q1x6 ?re8q1x6
      case he8q1x6 => (intro w hSw; (try dsimp only at hSw); obtain ⟨y0, y1, y2, y3, y4⟩ := hSw; go_simp; try with_reducible rfl)
      (try simp only [Act.put, lq1, lq2, lq3, lq4, lq5, lq6])
      refine wt (i := 2) (v := ?ve8q2x9) rfl ?he8q2x9 ?re8q2x9
      case he8q2x9 => (intro w hSw; (try dsimp only at hSw); obtain ⟨y0, y1, y2, y3, y4⟩ := hSw; go_simp; try with_reducible rfl)
      (try simp only [Act.put, lq1, lq2, lq3, lq4, lq5, lq6])
      refine wt (i := 3) (v := ?ve8q3x12) rfl ?he8q3x12 ?re8q3x12
      case he8q3x12 => (intro w hSw; (try dsimp only at hSw); obtain ⟨y0, y1, y2, y3, y4⟩ := hSw; go_simp; try with_reducible rfl)
      (try simp only [Act.put, lq1, lq2, lq3, lq4, lq5, lq6])
      refine wt (i := 4) (v := ?ve8q4x15) rfl ?he8q4x15 ?re8q4x15
      case he8q4x15 => (intro w hSw; (try dsimp only at hSw); obtain ⟨y0, y1, y2, y3, y4⟩ := hSw; go_simp; try with_reducible rfl)
      (try simp only [Act.put, lq1, lq2, lq3, lq4, lq5, lq6])
      refine wt (i := 5) (v := ?ve8q5x18) rfl ?he8q5x18 ?re8q5x18
      case he8q5x18 => (intro w hSw; (try dsimp only at hSw); obtain ⟨y0, y1, y2, y3, y4⟩ := hSw; go_simp; try with_reducible rfl)
      (try simp only [Act.put, lq1, lq2, lq3, lq4, lq5, lq6])
      refine wt (i := 6) (v := ?ve8q6x21) rfl ?he8q6x21 ?re8q6x21
      case he8q6x21 => (intro w hSw; (try dsimp only at hSw); obtain ⟨y0, y1, y2, y3, y4⟩ := hSw; go_simp; try with_reducible rfl)
      (try simp only [Act.put, lq1, lq2, lq3, lq4, lq5, lq6])
      refine wt (i := 7) (v := ?ve8q7x24) rfl ?he8q7x24 ?re8q7x24
      case he8q7x24 => (intro w hSw; (try dsimp only at hSw); obtain ⟨y0, y1, y2, y3, y4⟩ := hSw; go_simp; try with_reducible rfl)
      (try simp only [Act.put, lq1, lq2, lq3, lq4, lq5, lq6])
      refine wt (i := 8) (v := ?ve8q8x27) rfl ?he8q8x27 ?re8q8x27
      case he8q8x27 => (intro w hSw; (try dsimp only at hSw); obtain ⟨y0, y1, y2, y3, y4⟩ := hSw; go_simp; try with_reducible rfl)
      (try simp only [Act.put, lq1, lq2, lq3, lq4, lq5, lq6])
      refine wt (i := 9) (v := ?ve8q9x30) rfl ?he8q9x30 ?re8q9x30
      case he8q9x30 => (intro w hSw; (try dsimp only at hSw); obtain ⟨y0, y1, y2, y3, y4⟩ := hSw; go_simp; try with_reducible rfl)
      (try simp only [Act.put, lq1, lq2, lq3, lq4, lq5, lq6])
      refine wt (i := 10) (v := ?ve8q10x33) rfl ?he8q10x33 ?re8q10x33
      case he8q10x33 => (intro w hSw; (try dsimp only at hSw); obtain ⟨y0, y1, y2, y3, y4⟩ := hSw; go_simp; try with_reducible rfl)
      (try simp only [Act.put, lq1, lq2, lq3, lq4, lq5, lq6])
      refine wpAnyH_ready (rs := [11]) (by kernel_rfl) (by simp) ?_
      refine AllReadyH.cons rfl (fun K hK => ?_) AllReadyH.nil
      obtain ⟨d0, d1⟩ := HCx.out _ HE.out.g
      go_simp
      refine hK.out _ _ ?_ (fun hHeld => ?_)
      · (try dsimp only); have := at5 HTf.out.1.t; rw [← HNn.out] at this; exact this
      clear hK K
      clear d0 d1
      refine wpAnyH_done (by kernel_rfl) ?_ _
      go_wp2
      go_ret
      exact ⟨by rw [emB_t (by rw [← HNn.out]; exact HAll.out)]; rfl, n, Nat.le_refl _, HAll.out, HTf.out.1, HTf.out.2⟩
    · have h1' : (y : Int) < (n : Int) := by omega
      have H1 := hidb (show y < n by omega)
      have hyS : y < S.length := by rw [← HNn.out]; exact H1.out
      have e1 : IntKind.i64.wrap ((y : Int) + 1) = ((y + 1 : Nat) : Int) := by rw [show (y : Int) + 1 = ((y + 1 : Nat) : Int) by omega]; exact wr_in (by omega) (by have := HSl.out; omega)
      have HTw := hidb (HT.out.below E.out.1.g.out)
      obtain ⟨s0, s1⟩ := HTw.out.pt hyS
      have ixs := fun w => sindex0 SP n cS y H1.out w
      have ixg := fun w => bindex0 GO n n y H1.out w
      have HIy := hidb (HIn.out y H1.out)
      have HGo : Hid (∀ W', Gr W W' → W'.cell? ⟨GO, y, none⟩ = some (.bool (gn G y))) := fun W' hG => ((HT.out.below hG.out).gon (by rw [HGl.out.1]; exact H1.out)).1
      have HMr : Hid (okE S G a b c y → ∀ z, z < y + 1 → okE S G a b c z) := fun q z hz => by
        rcases Nat.lt_succ_iff_lt_or_eq.1 hz with r | r
        · exact E.out.2 z r
        · rw [r]; exact q
      have HOk := hidb (show okE S G a b c y = (gn G y = false → sx S y = a ∨ sx S y = b ∨ sx S y = c ∨ ¬ inP a b c (sx S y)) from rfl)
      have HPv := hidb E.out.2
      have HE := hidb E.out.1
      rw [HOk.out] at HMr
      obtain ⟨p, hp⟩ : ∃ z, z = sx S y := ⟨_, rfl⟩
      rw [← hp] at s0 s1 HIy HMr HOk
      generalize gn G y = gy at *
      generalize hu : y * 2 = u at *
      clear h1 hyS hu hp E
      go_upto_region 5 with fail
      have PX : Hid (At (wr.alloc (.cells #[.int .i64 p.1, .int .i64 p.2] 52)) wr.heap.size [.int .i64 p.1, .int .i64 p.2] ∧ EB W (wr.alloc (.cells #[.int .i64 p.1, .int .i64 p.2] 52)) Z a b c) := ⟨At.new2 _ _ _ _, HE.out.below ((Below.refl _ _).alloc (Nat.le_refl _) _)⟩
      generalize wr.alloc (.cells #[.int .i64 p.1, .int .i64 p.2] 52) = W5 at *
      generalize wr.heap.size = XB at *
      clear s0 s1 t1 t2 t3 HTw
      obtain ⟨-, t1, t2, t3, -⟩ := HTc.out _ PX.out.2.g
      have g0 := HGo.out _ PX.out.2.g
      obtain ⟨z0, z1⟩ := PX.out.1.c2
      obtain ⟨za0, za1⟩ := PX.out.2.a.c2
      obtain ⟨zb0, zb1⟩ := PX.out.2.b.c2
      obtain ⟨zc0, zc1⟩ := PX.out.2.c.c2
      have q1 := HNe.out.1 p
      have q2 := HNe.out.2.1 p
      have q3 := HNe.out.2.2 p
      clear HE
      cases gy with
      | true =>
        have HZ := hidb (HMr.out (fun e => by cases e))
        go_wp2
        go_roundw
        case rel => exact ⟨y + 1, H1.out, by go_num, hidb ⟨PX.out.2, HZ.out⟩⟩
        case measure => have := H1.out; simp [intOf]; omega
      | false =>
        by_cases c1 : p = a
        · rw [decide_eq_true c1] at q1
          have HZ := hidb (HMr.out (fun _ => .inl c1))
          clear c1 q2 q3
          go_wp2
          go_roundw
          case rel => exact ⟨y + 1, H1.out, by go_num, hidb ⟨PX.out.2, HZ.out⟩⟩
          case measure => have := H1.out; simp [intOf]; omega
        · rw [decide_eq_false c1] at q1
          by_cases c2 : p = b
          · rw [decide_eq_true c2] at q2
            have HZ := hidb (HMr.out (fun _ => .inr (.inl c2)))
            clear c1 c2 q3
            go_wp2
            go_roundw
            case rel => exact ⟨y + 1, H1.out, by go_num, hidb ⟨PX.out.2, HZ.out⟩⟩
            case measure => have := H1.out; simp [intOf]; omega
          · rw [decide_eq_false c2] at q2
            by_cases c3 : p = c
            · rw [decide_eq_true c3] at q3
              have HZ := hidb (HMr.out (fun _ => .inr (.inr (.inl c3))))
              clear c1 c2 c3
              go_wp2
              go_roundw
              case rel => exact ⟨y + 1, H1.out, by go_num, hidb ⟨PX.out.2, HZ.out⟩⟩
              case measure => have := H1.out; simp [intOf]; omega
            · rw [decide_eq_false c3] at q3
              by_cases c4 : inP a b c p
              · rw [decide_eq_true c4] at HIy
                have HNo : Hid (¬ okE S G a b c y) := fun q => by
                  rw [HOk.out] at q
                  rcases q rfl with r | r | r | r
                  · exact c1 r
                  · exact c2 r
                  · exact c3 r
                  · exact r c4
                clear c1 c2 c3 c4
                go_wp2_with (go_at_call 79; refine (HIy.out _).mono ?_; rintro e w6 ⟨rfl, hB⟩; replace PX := hidb (And.intro (At.below hB.out PX.out.1) (PX.out.2.below hB.out)); clear hB t1 t2 t3; obtain ⟨-, t1, t2, t3, -⟩ := HTc.out _ PX.out.2.g; obtain ⟨d0, d1⟩ := HCx.out _ PX.out.2.g)
                have HTf : Hid (TH w (w6.setCell ⟨CL, x, none⟩ (.int .i64 (y : Int))) T SP cS GO CL AR cA B cp most S A G (C.set x y) ∧ Ow CL W (w6.setCell ⟨CL, x, none⟩ (.int .i64 (y : Int)))) := ⟨(HT.out.below PX.out.2.g.out).setC x y, (Ow.of PX.out.2.g.out).set _ _⟩
                go_ret
                exact ⟨y, by rw [emB_f (fun q => HNo.out (q y (by rw [← HNn.out]; exact H1.out)))]; rfl, Nat.le_of_lt H1.out, HPv.out, HTf.out.1, HTf.out.2⟩
              · rw [decide_eq_false c4] at HIy
                have HZ := hidb (HMr.out (fun _ => .inr (.inr (.inr c4))))
                clear c1 c2 c3 c4
                go_wp2_with (go_at_call 79; refine (HIy.out _).mono ?_; rintro e w6 ⟨rfl, hB⟩; replace PX := hidb (And.intro (At.below hB.out PX.out.1) (PX.out.2.below hB.out)); clear hB)
                go_roundw
                case rel => exact ⟨y + 1, H1.out, by go_num, hidb ⟨PX.out.2, HZ.out⟩⟩
                case measure => have := H1.out; simp [intOf]; omega
end
end Go.Proofs.YtnadgoomkaldkaaDoor
