/-
  shape.thinner.free.
-/
import Derived.Test.YtnadgoomkaldkaaDoorQTk
import Derived.Test.YtnadgoomkaldkaaDoorQTgM
namespace Go.Proofs.YtnadgoomkaldkaaDoor
open Go.RowKit
attribute [local go_sem ↓] Go.wp_at_zero Go.wp_at_succ

noncomputable def frB (most : Int) (Ls : List (List Sp)) (i k : Nat) : Bool := @decide (frP most Ls i k) (Classical.propDecidable _)
theorem frB_t {most : Int} {Ls : List (List Sp)} {i k : Nat} (h : frP most Ls i k) : frB most Ls i k = true := by unfold frB; exact @decide_eq_true _ (Classical.propDecidable _) h
theorem frB_f {most : Int} {Ls : List (List Sp)} {i k : Nat} (h : ¬ frP most Ls i k) : frB most Ls i k = false := by unfold frB; exact @decide_eq_false _ (Classical.propDecidable _) h
/-- The thinner, and three points in boxes. -/
structure FB (w wx : World) (T SP cS GO CL AR cA : Nat) (B cp : Nat → Nat) (most : Int) (S : List Sp) (A : List (List Nat)) (G : List Bool) (C : List Nat) (XA XB XC : Nat) (a b c : Sp) : Prop where
  th : TH w wx T SP cS GO CL AR cA B cp most S A G C
  a : At wx XA [.int .i64 a.1, .int .i64 a.2]
  b : At wx XB [.int .i64 b.1, .int .i64 b.2]
  c : At wx XC [.int .i64 c.1, .int .i64 c.2]
  n : ¬ XA = CL ∧ ¬ XB = CL ∧ ¬ XC = CL
section
variable {w W W' : World} {T SP cS GO CL AR cA : Nat} {B cp : Nat → Nat} {most : Int} {S : List Sp} {A : List (List Nat)} {G : List Bool} {C C' : List Nat} {XA XB XC : Nat} {a b c : Sp}
theorem FB.below (h : FB w W T SP cS GO CL AR cA B cp most S A G C XA XB XC a b c) (hB : Below W.heap.size W W') : FB w W' T SP cS GO CL AR cA B cp most S A G C XA XB XC a b c :=
  ⟨h.th.below hB, At.below hB h.a, At.below hB h.b, At.below hB h.c, h.n⟩
theorem FB.new (h : FB w W T SP cS GO CL AR cA B cp most S A G C XA XB XC a b c) (k : Ow CL W W') (ht : TH w W' T SP cS GO CL AR cA B cp most S A G C') : FB w W' T SP cS GO CL AR cA B cp most S A G C' XA XB XC a b c :=
  ⟨ht, h.a.ow k h.n.1, h.b.ow k h.n.2.1, h.c.ow k h.n.2.2, h.n⟩
theorem fr_parts (hN : NI S A G C) {i k : Nat} (hi : i < A.length) (h0 : 0 < k) (hk : k + 1 < (ax A i).length) : frP most (lsA S A) i k ↔ ¬ most < max (tn (sx S (nn A i (k - 1))) (sx S (nn A i k)) (sx S (nn A i (k + 1)))) (-tn (sx S (nn A i (k - 1))) (sx S (nn A i k)) (sx S (nn A i (k + 1)))) ∧ ¬ (sx S (nn A i 0) = sx S (nn A i ((ax A i).length - 1)) ∧ (ax A i).length = 4) ∧ (∀ y, y < S.length → okE S G (sx S (nn A i (k - 1))) (sx S (nn A i k)) (sx S (nn A i (k + 1))) y) ∧ ¬ jnP (lsA S A) (sx S (nn A i (k - 1)), sx S (nn A i (k + 1))) := by
  unfold frP cl4
  rw [hN.em, lx_lsl hi, sx_ls hi (by omega), sx_ls hi (by omega), sx_ls hi (by omega), sx_ls hi (by omega), sx_ls hi (by omega)]
  unfold okE
  constructor
  · rintro ⟨h1, h2, h3, h4⟩
    exact ⟨by omega, h2, h3, h4⟩
  · rintro ⟨h1, h2, h3, h4⟩
    exact ⟨⟨by omega, by omega⟩, h2, h3, h4⟩
set_option maxRecDepth 8000 in
set_option maxHeartbeats 32000000 in
theorem free_any (h : TH w W T SP cS GO CL AR cA B cp most S A G C) (hN : NI S A G C) (hS : ∀ y, y < S.length → okS (sx S y)) (hSl : S.length ≤ 5000) (hAl : A.length ≤ 5000) {i k : Nat} (hi : i < A.length) (h0 : 0 < k) (hk : k + 1 < (ax A i).length) (hll : (ax A i).length ≤ 5000) : Calls Tryd.prog 49 #[.pointer (some ⟨T, 0, none⟩), .slice (some ⟨B i, 0, none⟩) (ax A i).length (cp i), .int .i64 (k : Int)] W fun e w' => ∃ C', e = .returned (.bool (frB most (lsA S A) i k)) ∧ NI S A G C' ∧ TH w w' T SP cS GO CL AR cA B cp most S A G C' := by
  have hfr := fr_parts (most := most) hN hi h0 hk
  have HFr : Hid ((frP most (lsA S A) i k → frB most (lsA S A) i k = true) ∧ (¬ frP most (lsA S A) i k → frB most (lsA S A) i k = false)) := ⟨frB_t, frB_f⟩
  rw [hfr] at HFr
  have y0 := hN.lt i hi (k - 1) (by omega)
  have y1 := hN.lt i hi k (by omega)
  have y2 := hN.lt i hi (k + 1) hk
  have o0 := hS _ y0
  have o1 := hS _ y1
  have o2 := hS _ y2
  have HTn := hidb (fun W => turn_any o0 o1 o2 W)
  have htb := tn_bd o0 o1 o2
  have HCl := hidb (fun W' (hT : TH w W' T SP cS GO CL AR cA B cp most S A G C) => closed_any hT hN hi (by omega) hll hSl)
  have HEm := hidb (fun W' (hT : TH w W' T SP cS GO CL AR cA B cp most S A G C) => empty_any hT hN y1 o0 o1 o2 hS hSl (fun y hy hg => hN.clr i hi k h0 hk y hy hg))
  have HJn := hidb (fun W' C' (hT : TH w W' T SP cS GO CL AR cA B cp most S A G C') (hN' : NI S A G C') => joined_any hT hN' hS hAl (p := (sx S (nn A i (k - 1)), sx S (nn A i (k + 1)))) ⟨o0, o2⟩)
  have HNs := hidb (fun v (hv : v ≤ S.length) (hh : ∀ y, y < v → okE S G (sx S (nn A i (k - 1))) (sx S (nn A i k)) (sx S (nn A i (k + 1))) y) => hN.set hi h0 hk hv hh)
  have HN0 := hidb hN
  have HC : Hid (∀ W', Gr W W' → W'.cell? ⟨T, 1, none⟩ = some (.slice (some ⟨SP, 0, none⟩) S.length cS) ∧ (W'.cell? ⟨B i, k - 1, none⟩ = some (.int .i64 ((nn A i (k - 1) : Nat) : Int)) ∧ W'.cell? ⟨B i, k, none⟩ = some (.int .i64 ((nn A i k : Nat) : Int)) ∧ W'.cell? ⟨B i, k + 1, none⟩ = some (.int .i64 ((nn A i (k + 1) : Nat) : Int))) ∧ (W'.cell? ⟨SP, nn A i (k - 1) * 2, none⟩ = some (.int .i64 (sx S (nn A i (k - 1))).1) ∧ W'.cell? ⟨SP, nn A i (k - 1) * 2 + 1, none⟩ = some (.int .i64 (sx S (nn A i (k - 1))).2)) ∧ (W'.cell? ⟨SP, nn A i k * 2, none⟩ = some (.int .i64 (sx S (nn A i k)).1) ∧ W'.cell? ⟨SP, nn A i k * 2 + 1, none⟩ = some (.int .i64 (sx S (nn A i k)).2)) ∧ (W'.cell? ⟨SP, nn A i (k + 1) * 2, none⟩ = some (.int .i64 (sx S (nn A i (k + 1))).1) ∧ W'.cell? ⟨SP, nn A i (k + 1) * 2 + 1, none⟩ = some (.int .i64 (sx S (nn A i (k + 1))).2))) := fun W' hG => by
    have h' := h.below hG.out
    exact ⟨(at5 h'.t).2.1, ⟨(h'.num hi (by omega)).1, (h'.num hi (by omega)).1, (h'.num hi hk).1⟩, h'.pt y0, h'.pt y1, h'.pt y2⟩
  have HT0 := hidb h
  have HNm := hidb (fun W' C' (hT : TH w W' T SP cS GO CL AR cA B cp most S A G C') => (hT.num hi (m := k) (by omega)).1)
  have i0 := fun w => iindex0 (B i) (ax A i).length (cp i) (k - 1) (by omega) w
  have i1 := fun w => iindex0 (B i) (ax A i).length (cp i) k (by omega) w
  have i2 := fun w => iindex0 (B i) (ax A i).length (cp i) (k + 1) hk w
  have s0 := fun w => sindex0 SP S.length cS _ y0 w
  have s1 := fun w => sindex0 SP S.length cS _ y1 w
  have s2 := fun w => sindex0 SP S.length cS _ y2 w
  have em : IntKind.i64.wrap ((k : Int) - 1) = ((k - 1 : Nat) : Int) := by rw [show (k : Int) - 1 = ((k - 1 : Nat) : Int) by omega]; exact wr_in (by omega) (by omega)
  have en : IntKind.i64.wrap ((k : Int) + 1) = ((k + 1 : Nat) : Int) := by rw [show (k : Int) + 1 = ((k + 1 : Nat) : Int) by omega]; exact wr_in (by omega) (by omega)
  have HCLs := hidb h.c.lt
  obtain ⟨bcl, hbcl⟩ : ∃ z, z = decide (sx S (nn A i 0) = sx S (nn A i ((ax A i).length - 1))) := ⟨_, rfl⟩
  have hbc : sx S (nn A i 0) = sx S (nn A i ((ax A i).length - 1)) ↔ bcl = true := by rw [hbcl]; simp
  rw [← hbcl] at HCl
  rw [hbc] at HFr
  clear hbc hbcl
  obtain ⟨P0, hP0⟩ : ∃ z, z = sx S (nn A i (k - 1)) := ⟨_, rfl⟩
  obtain ⟨P1, hP1⟩ : ∃ z, z = sx S (nn A i k) := ⟨_, rfl⟩
  obtain ⟨P2, hP2⟩ : ∃ z, z = sx S (nn A i (k + 1)) := ⟨_, rfl⟩
  rw [← hP0, ← hP1, ← hP2] at HFr HTn htb HEm HNs HC
  rw [← hP0, ← hP2] at HJn
  generalize hx0 : nn A i (k - 1) = x0 at *
  generalize hx1 : nn A i k = x1 at *
  generalize hx2 : nn A i (k + 1) = x2 at *
  generalize hu0 : x0 * 2 = u0 at *
  generalize hu1 : x1 * 2 = u1 at *
  generalize hu2 : x2 * 2 = u2 at *
  generalize hk0 : k - 1 = k0 at *
  generalize hk2 : k + 1 = k2 at *
  obtain ⟨D, hD⟩ : ∃ z, z = tn P0 P1 P2 := ⟨_, rfl⟩
  rw [← hD] at HFr HTn htb
  have eD : IntKind.i64.wrap (-D) = -D := wr_in (by omega) (by omega)
  generalize hn : S.length = n at *
  generalize hL : (ax A i).length = L at *
  obtain ⟨mx, hmx⟩ : ∃ z, max D (-D) = z := ⟨_, rfl⟩
  rw [hmx] at HFr
  have HF1 : Hid (mx ≤ most → (bcl = true → L = 4 → False) → (∀ y, y < n → okE S G P0 P1 P2 y) → (jnP (lsA S A) (P0, P2) → False) → frB most (lsA S A) i k = true) := fun z1 z2 z3 z4 => HFr.out.1 ⟨by omega, fun y => z2 y.1 (y.2), z3, z4⟩
  have HF2 : Hid ((most < mx → frB most (lsA S A) i k = false) ∧ (bcl = true → L = 4 → frB most (lsA S A) i k = false) ∧ ((∀ y, y < n → okE S G P0 P1 P2 y) → False) → True) := fun _ => trivial
  have HF3 : Hid (most < mx → frB most (lsA S A) i k = false) := fun z => HFr.out.2 (fun y => y.1 z)
  have HF4 : Hid (bcl = true → L = 4 → frB most (lsA S A) i k = false) := fun z1 z2 => HFr.out.2 (fun y => y.2.1 ⟨z1, z2⟩)
  have HF5 : Hid (((∀ y, y < n → okE S G P0 P1 P2 y) → False) → frB most (lsA S A) i k = false) := fun z => HFr.out.2 (fun y => z y.2.2.1)
  have HF6 : Hid (jnP (lsA S A) (P0, P2) → frB most (lsA S A) i k = false) := fun z => HFr.out.2 (fun y => y.2.2.2 z)
  clear HFr HF2
  have GG := hidb (Gr.refl W)
  clear h hN hS hSl hAl hi h0 hk hll hfr y0 y1 y2 o0 o1 o2 htb hP0 hP1 hP2 hx0 hx1 hx2 hu0 hu1 hu2 hk0 hk2 hD
  go_enter Tryd.func49, Tryd.ntmps49
  go_upto_region 1 with fail
  generalize hBi : B i = Bi at *
  generalize hci : cp i = ci at *
  have HTt := hidb (fun W' C' (hT : TH w W' T SP cS GO CL AR cA B cp most S A G C') => by have := at5 hT.t; rw [hn] at this; exact this)
  go_cut [7, 8, 9] from 11 to 42 (fun x y z wx => ∃ XA XB XC, x = .pointer (some ⟨XA, 0, none⟩) ∧ y = .pointer (some ⟨XB, 0, none⟩) ∧ z = .pointer (some ⟨XC, 0, none⟩) ∧ Hid (FB w wx T SP cS GO CL AR cA B cp most S A G C XA XB XC P0 P1 P2))
  case first =>
    refine wp_region_held_drew (S := (fun w' => w'.cell? ⟨T, 1, none⟩ = some (.slice (some ⟨SP, 0, none⟩) n cS) ∧ (w'.cell? ⟨Bi, k0, none⟩ = some (.int .i64 ((x0 : Nat) : Int)) ∧ w'.cell? ⟨Bi, k, none⟩ = some (.int .i64 ((x1 : Nat) : Int)) ∧ w'.cell? ⟨Bi, k2, none⟩ = some (.int .i64 ((x2 : Nat) : Int))) ∧ (w'.cell? ⟨SP, u0, none⟩ = some (.int .i64 P0.1) ∧ w'.cell? ⟨SP, u0 + 1, none⟩ = some (.int .i64 P0.2)) ∧ (w'.cell? ⟨SP, u1, none⟩ = some (.int .i64 P1.1) ∧ w'.cell? ⟨SP, u1 + 1, none⟩ = some (.int .i64 P1.2)) ∧ (w'.cell? ⟨SP, u2, none⟩ = some (.int .i64 P2.1) ∧ w'.cell? ⟨SP, u2 + 1, none⟩ = some (.int .i64 P2.2)))) (by kernel_rfl) ?_ (fun hHeld => ?_)
    · (try dsimp only); exact HC.out _ GG.out.drew
    replace GG := hidb GG.out.drew
    generalize W.drew = V0 at *
    refine wt (i := 0) (v := ?vf1q0x4) rfl ?hf1q0x4 ?rf1q0x4
    case hf1q0x4 => (intro w hSw; (try dsimp only at hSw); obtain ⟨z0, ⟨z1, z2, z3⟩, ⟨z4, z5⟩, ⟨z6, z7⟩, z8, z9⟩ := hSw; go_simp; try with_reducible rfl)
    (try simp only [Act.put, lq1, lq2, lq4, lq5, lq6])
    refine wt (i := 1) (v := ?vf1q1x7) rfl ?hf1q1x7 ?rf1q1x7
    case hf1q1x7 => (intro w hSw; (try dsimp only at hSw); obtain ⟨z0, ⟨z1, z2, z3⟩, ⟨z4, z5⟩, ⟨z6, z7⟩, z8, z9⟩ := hSw; go_simp; try with_reducible rfl)
    (try simp only [Act.put, lq1, lq2, lq3, lq4, lq5, lq6])
    refine wt (i := 2) (v := ?vf1q2x10) rfl ?hf1q2x10 ?rf1q2x10
    case hf1q2x10 => (intro w hSw; (try dsimp only at hSw); obtain ⟨z0, ⟨z1, z2, z3⟩, ⟨z4, z5⟩, ⟨z6, z7⟩, z8, z9⟩ := hSw; go_simp; try with_reducible rfl)
    (try simp only [Act.put, lq1, lq2, lq3, lq4, lq5, lq6])
    refine wt (i := 3) (v := ?vf1q3x13) rfl ?hf1q3x13 ?rf1q3x13
    case hf1q3x13 => (intro w hSw; (try dsimp only at hSw); obtain ⟨z0, ⟨z1, z2, z3⟩, ⟨z4, z5⟩, ⟨z6, z7⟩, z8, z9⟩ := hSw; go_simp; try with_reducible rfl)
    (try simp only [Act.put, lq1, lq2, lq3, lq4, lq5, lq6])
    refine wt (i := 4) (v := ?vf1q4x16) rfl ?hf1q4x16 ?rf1q4x16
    case hf1q4x16 => (intro w hSw; (try dsimp only at hSw); obtain ⟨z0, ⟨z1, z2, z3⟩, ⟨z4, z5⟩, ⟨z6, z7⟩, z8, z9⟩ := hSw; go_simp; try with_reducible rfl)
    (try simp only [Act.put, lq1, lq2, lq3, lq4, lq5, lq6])
    refine wt (i := 5) (v := ?vf1q5x19) rfl ?hf1q5x19 ?rf1q5x19
    case hf1q5x19 => (intro w hSw; (try dsimp only at hSw); obtain ⟨z0, ⟨z1, z2, z3⟩, ⟨z4, z5⟩, ⟨z6, z7⟩, z8, z9⟩ := hSw; go_simp; try with_reducible rfl)
    (try simp only [Act.put, lq1, lq2, lq3, lq4, lq5, lq6])
    refine wt (i := 6) (v := ?vf1q6x22) rfl ?hf1q6x22 ?rf1q6x22
    case hf1q6x22 => (intro w hSw; (try dsimp only at hSw); obtain ⟨z0, ⟨z1, z2, z3⟩, ⟨z4, z5⟩, ⟨z6, z7⟩, z8, z9⟩ := hSw; go_simp; try with_reducible rfl)
    (try simp only [Act.put, lq1, lq2, lq3, lq4, lq5, lq6])
    refine wt (i := 7) (v := ?vf1q7x25) rfl ?hf1q7x25 ?rf1q7x25
    case hf1q7x25 => (intro w hSw; (try dsimp only at hSw); obtain ⟨z0, ⟨z1, z2, z3⟩, ⟨z4, z5⟩, ⟨z6, z7⟩, z8, z9⟩ := hSw; go_simp; try with_reducible rfl)
    (try simp only [Act.put, lq1, lq2, lq3, lq4, lq5, lq6])
    refine wt (i := 8) (v := ?vf1q8x28) rfl ?hf1q8x28 ?rf1q8x28
    case hf1q8x28 => (intro w hSw; (try dsimp only at hSw); obtain ⟨z0, ⟨z1, z2, z3⟩, ⟨z4, z5⟩, ⟨z6, z7⟩, z8, z9⟩ := hSw; go_simp; try with_reducible rfl)
    (try simp only [Act.put, lq1, lq2, lq3, lq4, lq5, lq6])
    refine wt (i := 9) (v := ?vf1q9x31) rfl ?hf1q9x31 ?rf1q9x31
    case hf1q9x31 => (intro w hSw; (try dsimp only at hSw); obtain ⟨z0, ⟨z1, z2, z3⟩, ⟨z4, z5⟩, ⟨z6, z7⟩, z8, z9⟩ := hSw; go_simp; try with_reducible rfl)
    (try simp only [Act.put, lq1, lq2, lq3, lq4, lq5, lq6])
    refine wt (i := 10) (v := ?vf1q10x34) rfl ?hf1q10x34 ?rf1q10x34
    case hf1q10x34 => (intro w hSw; (try dsimp only at hSw); obtain ⟨z0, ⟨z1, z2, z3⟩, ⟨z4, z5⟩, ⟨z6, z7⟩, z8, z9⟩ := hSw; go_simp; try with_reducible rfl)
    (try simp only [Act.put, lq1, lq2, lq3, lq4, lq5, lq6])
    refine wt (i := 11) (v := ?vf1q11x37) rfl ?hf1q11x37 ?rf1q11x37
    case hf1q11x37 => (intro w hSw; (try dsimp only at hSw); obtain ⟨z0, ⟨z1, z2, z3⟩, ⟨z4, z5⟩, ⟨z6, z7⟩, z8, z9⟩ := hSw; go_simp; try with_reducible rfl)
    (try simp only [Act.put, lq1, lq2, lq3, lq4, lq5, lq6])
    refine wt (i := 12) (v := ?vf1q12x40) rfl ?hf1q12x40 ?rf1q12x40
    case hf1q12x40 => (intro w hSw; (try dsimp only at hSw); obtain ⟨z0, ⟨z1, z2, z3⟩, ⟨z4, z5⟩, ⟨z6, z7⟩, z8, z9⟩ := hSw; go_simp; try with_reducible rfl)
    (try simp only [Act.put, lq1, lq2, lq3, lq4, lq5, lq6])
    refine wt (i := 13) (v := ?vf1q13x43) rfl ?hf1q13x43 ?rf1q13x43
    case hf1q13x43 => (intro w hSw; (try dsimp only at hSw); obtain ⟨z0, ⟨z1, z2, z3⟩, ⟨z4, z5⟩, ⟨z6, z7⟩, z8, z9⟩ := hSw; go_simp; try with_reducible rfl)
    (try simp only [Act.put, lq1, lq2, lq3, lq4, lq5, lq6])
    refine wt (i := 14) (v := ?vf1q14x46) rfl ?hf1q14x46 ?rf1q14x46
    case hf1q14x46 => (intro w hSw; (try dsimp only at hSw); obtain ⟨z0, ⟨z1, z2, z3⟩, ⟨z4, z5⟩, ⟨z6, z7⟩, z8, z9⟩ := hSw; go_simp; try with_reducible rfl)
    (try simp only [Act.put, lq1, lq2, lq3, lq4, lq5, lq6])
    refine wt (i := 15) (v := ?vf1q15x49) rfl ?hf1q15x49 ?rf1q15x49
    case hf1q15x49 => (intro w hSw; (try dsimp only at hSw); obtain ⟨z0, ⟨z1, z2, z3⟩, ⟨z4, z5⟩, ⟨z6, z7⟩, z8, z9⟩ := hSw; go_simp; try with_reducible rfl)
    (try simp only [Act.put, lq1, lq2, lq3, lq4, lq5, lq6])
    refine wt (i := 16) (v := ?vf1q16x52) rfl ?hf1q16x52 ?rf1q16x52
    case hf1q16x52 => (intro w hSw; (try dsimp only at hSw); obtain ⟨z0, ⟨z1, z2, z3⟩, ⟨z4, z5⟩, ⟨z6, z7⟩, z8, z9⟩ := hSw; go_simp; try with_reducible rfl)
    (try simp only [Act.put, lq1, lq2, lq3, lq4, lq5, lq6])
    refine wt (i := 17) (v := ?vf1q17x55) rfl ?hf1q17x55 ?rf1q17x55
    case hf1q17x55 => (intro w hSw; (try dsimp only at hSw); obtain ⟨z0, ⟨z1, z2, z3⟩, ⟨z4, z5⟩, ⟨z6, z7⟩, z8, z9⟩ := hSw; go_simp; try with_reducible rfl)
    (try simp only [Act.put, lq1, lq2, lq3, lq4, lq5, lq6])
    refine wt (i := 18) (v := ?vf1q18x58) rfl ?hf1q18x58 ?rf1q18x58
    case hf1q18x58 => (intro w hSw; (try dsimp only at hSw); obtain ⟨z0, ⟨z1, z2, z3⟩, ⟨z4, z5⟩, ⟨z6, z7⟩, z8, z9⟩ := hSw; go_simp; try with_reducible rfl)
    (try simp only [Act.put, lq1, lq2, lq3, lq4, lq5, lq6])
    refine wt (i := 19) (v := ?vf1q19x61) rfl ?hf1q19x61 ?rf1q19x61
    case hf1q19x61 => (intro w hSw; (try dsimp only at hSw); obtain ⟨z0, ⟨z1, z2, z3⟩, ⟨z4, z5⟩, ⟨z6, z7⟩, z8, z9⟩ := hSw; go_simp; try with_reducible rfl)
    (try simp only [Act.put, lq1, lq2, lq3, lq4, lq5, lq6])
    refine wt (i := 20) (v := ?vf1q20x64) rfl ?hf1q20x64 ?rf1q20x64
    case hf1q20x64 => (intro w hSw; (try dsimp only at hSw); obtain ⟨z0, ⟨z1, z2, z3⟩, ⟨z4, z5⟩, ⟨z6, z7⟩, z8, z9⟩ := hSw; go_simp; try with_reducible rfl)
    (try simp only [Act.put, lq1, lq2, lq3, lq4, lq5, lq6])
    refine wt (i := 21) (v := ?vf1q21x67) rfl ?hf1q21x67 ?rf1q21x67
    case hf1q21x67 => (intro w hSw; (try dsimp only at hSw); obtain ⟨z0, ⟨z1, z2, z3⟩, ⟨z4, z5⟩, ⟨z6, z7⟩, z8, z9⟩ := hSw; go_simp; try with_reducible rfl)
    (try simp only [Act.put, lq1, lq2, lq3, lq4, lq5, lq6])
    refine wt (i := 22) (v := ?vf1q22x70) rfl ?hf1q22x70 ?rf1q22x70
    case hf1q22x70 => (intro w hSw; (try dsimp only at hSw); obtain ⟨z0, ⟨z1, z2, z3⟩, ⟨z4, z5⟩, ⟨z6, z7⟩, z8, z9⟩ := hSw; go_simp; try with_reducible rfl)
    (try simp only [Act.put, lq1, lq2, lq3, lq4, lq5, lq6])
    refine wt (i := 23) (v := ?vf1q23x73) rfl ?hf1q23x73 ?rf1q23x73
    case hf1q23x73 => (intro w hSw; (try dsimp only at hSw); obtain ⟨z0, ⟨z1, z2, z3⟩, ⟨z4, z5⟩, ⟨z6, z7⟩, z8, z9⟩ := hSw; go_simp; try with_reducible rfl)
    (try simp only [Act.put, lq1, lq2, lq3, lq4, lq5, lq6])
    refine wt (i := 24) (v := ?vf1q24x76) rfl ?hf1q24x76 ?rf1q24x76
    case hf1q24x76 => (intro w hSw; (try dsimp only at hSw); obtain ⟨z0, ⟨z1, z2, z3⟩, ⟨z4, z5⟩, ⟨z6, z7⟩, z8, z9⟩ := hSw; go_simp; try with_reducible rfl)
    (try simp only [Act.put, lq1, lq2, lq3, lq4, lq5, lq6])
    refine wt (i := 25) (v := ?vf1q25x79) rfl ?hf1q25x79 ?rf1q25x79
    case hf1q25x79 => (intro w hSw; (try dsimp only at hSw); obtain ⟨z0, ⟨z1, z2, z3⟩, ⟨z4, z5⟩, ⟨z6, z7⟩, z8, z9⟩ := hSw; go_simp; try with_reducible rfl)
    (try simp only [Act.put, lq1, lq2, lq3, lq4, lq5, lq6])
    refine wt (i := 26) (v := ?vf1q26x82) rfl ?hf1q26x82 ?rf1q26x82
    case hf1q26x82 => (intro w hSw; (try dsimp only at hSw); obtain ⟨z0, ⟨z1, z2, z3⟩, ⟨z4, z5⟩, ⟨z6, z7⟩, z8, z9⟩ := hSw; go_simp; try with_reducible rfl)
    (try simp only [Act.put, lq1, lq2, lq3, lq4, lq5, lq6])
    refine wt (i := 27) (v := ?vf1q27x85) rfl ?hf1q27x85 ?rf1q27x85
    case hf1q27x85 => (intro w hSw; (try dsimp only at hSw); obtain ⟨z0, ⟨z1, z2, z3⟩, ⟨z4, z5⟩, ⟨z6, z7⟩, z8, z9⟩ := hSw; go_simp; try with_reducible rfl)
    (try simp only [Act.put, lq1, lq2, lq3, lq4, lq5, lq6])
    refine wt (i := 28) (v := ?vf1q28x88) rfl ?hf1q28x88 ?rf1q28x88
    case hf1q28x88 => (intro w hSw; (try dsimp only at hSw); obtain ⟨z0, ⟨z1, z2, z3⟩, ⟨z4, z5⟩, ⟨z6, z7⟩, z8, z9⟩ := hSw; go_simp; try with_reducible rfl)
    (try simp only [Act.put, lq1, lq2, lq3, lq4, lq5, lq6])
    refine wt (i := 29) (v := ?vf1q29x91) rfl ?hf1q29x91 ?rf1q29x91
    case hf1q29x91 => (intro w hSw; (try dsimp only at hSw); obtain ⟨z0, ⟨z1, z2, z3⟩, ⟨z4, z5⟩, ⟨z6, z7⟩, z8, z9⟩ := hSw; go_simp; try with_reducible rfl)
    (try simp only [Act.put, lq1, lq2, lq3, lq4, lq5, lq6])
    refine wt (i := 30) (v := ?vf1q30x94) rfl ?hf1q30x94 ?rf1q30x94
    case hf1q30x94 => (intro w hSw; (try dsimp only at hSw); obtain ⟨z0, ⟨z1, z2, z3⟩, ⟨z4, z5⟩, ⟨z6, z7⟩, z8, z9⟩ := hSw; go_simp; try with_reducible rfl)
    (try simp only [Act.put, lq1, lq2, lq3, lq4, lq5, lq6])
    refine wt (i := 31) (v := ?vf1q31x97) rfl ?hf1q31x97 ?rf1q31x97
    case hf1q31x97 => (intro w hSw; (try dsimp only at hSw); obtain ⟨z0, ⟨z1, z2, z3⟩, ⟨z4, z5⟩, ⟨z6, z7⟩, z8, z9⟩ := hSw; go_simp; try with_reducible rfl)
    (try simp only [Act.put, lq1, lq2, lq3, lq4, lq5, lq6])
    refine wpAnyH_ready (rs := [32, 33, 34]) (by kernel_rfl) (by simp) ?_
    refine AllReadyH.cons rfl (fun K hK => ?_) (AllReadyH.cons rfl (fun K hK => ?_) (AllReadyH.cons rfl (fun K hK => ?_) AllReadyH.nil))
    · skip
      go_simp
      refine hK.out _ _ ?_ (fun hHeld => ?_)
      · (try dsimp only); exact HC.out _ (GG.out.alloc _)
      clear hK K
      have KA := hidb (At.new2 V0 (.int .i64 0) (.int .i64 0) 52)
      obtain ⟨XA, hXA⟩ : ∃ z, z = V0.heap.size := ⟨_, rfl⟩
      have LA := hidb (show W.heap.size ≤ XA by rw [hXA]; exact GG.out.out.size)
      rw [← hXA] at KA ⊢
      clear hXA
      replace GG := hidb (GG.out.alloc (.cells #[.int .i64 0, .int .i64 0] 52))
      generalize V0.alloc (.cells #[.int .i64 0, .int .i64 0] 52) = V11 at *
      refine wpAnyH_ready (rs := [33, 34]) (by kernel_rfl) (by simp) ?_
      refine AllReadyH.cons rfl (fun K hK => ?_) (AllReadyH.cons rfl (fun K hK => ?_) AllReadyH.nil)
      · skip
        go_simp
        refine hK.out _ _ ?_ (fun hHeld => ?_)
        · (try dsimp only); exact HC.out _ (GG.out.alloc _)
        clear hK K
        have KB := hidb (At.new2 V11 (.int .i64 0) (.int .i64 0) 52)
        obtain ⟨XB, hXB⟩ : ∃ z, z = V11.heap.size := ⟨_, rfl⟩
        have LB := hidb (show W.heap.size ≤ XB by rw [hXB]; exact GG.out.out.size)
        have NBA := hidb (show ¬ XB = XA by have := KA.out.lt; omega)
        replace KA := hidb (KA.out.alloc (.cells #[.int .i64 0, .int .i64 0] 52))
        rw [← hXB] at KB ⊢
        clear hXB
        replace GG := hidb (GG.out.alloc (.cells #[.int .i64 0, .int .i64 0] 52))
        generalize V11.alloc (.cells #[.int .i64 0, .int .i64 0] 52) = V12 at *
        refine wpAnyH_ready (rs := [34]) (by kernel_rfl) (by simp) ?_
        refine AllReadyH.cons rfl (fun K hK => ?_) AllReadyH.nil
        go_simp
        refine hK.out _ _ ?_ (fun hHeld => ?_)
        · (try dsimp only); exact HC.out _ (GG.out.alloc _)
        clear hK K
        have KC := hidb (At.new2 V12 (.int .i64 0) (.int .i64 0) 52)
        obtain ⟨XC, hXC⟩ : ∃ z, z = V12.heap.size := ⟨_, rfl⟩
        have LC := hidb (show W.heap.size ≤ XC by rw [hXC]; exact GG.out.out.size)
        have NCA := hidb (show ¬ XC = XA by have := KA.out.lt; omega)
        replace KA := hidb (KA.out.alloc (.cells #[.int .i64 0, .int .i64 0] 52))
        have NCB := hidb (show ¬ XC = XB by have := KB.out.lt; omega)
        replace KB := hidb (KB.out.alloc (.cells #[.int .i64 0, .int .i64 0] 52))
        rw [← hXC] at KC ⊢
        clear hXC
        replace GG := hidb (GG.out.alloc (.cells #[.int .i64 0, .int .i64 0] 52))
        generalize V12.alloc (.cells #[.int .i64 0, .int .i64 0] 52) = V13 at *
        refine wpAnyH_ready (rs := [35]) (by kernel_rfl) (by simp) ?_
        refine AllReadyH.cons rfl (fun K hK => ?_) AllReadyH.nil
        obtain ⟨z0, z1⟩ := KA.out.c2
        obtain ⟨y0, y1⟩ := KA.out.f2
        go_simp
        refine hK.out _ _ ?_ (fun hHeld => ?_)
        · (try dsimp only); exact HC.out _ ((GG.out.set LA.out _ _).set LA.out _ _)
        clear hK K
        have QA := hidb (At.fill2 (KA.out.has rfl) (.int .i64 P0.1) (.int .i64 P0.2))
        replace KA := QA
        clear QA z0 z1 y0 y1
        replace KB := hidb ((KB.out.skip (fun e => NBA.out e.symm) 0 (.int .i64 P0.1)).skip (fun e => NBA.out e.symm) 1 (.int .i64 P0.2))
        replace KC := hidb ((KC.out.skip (fun e => NCA.out e.symm) 0 (.int .i64 P0.1)).skip (fun e => NCA.out e.symm) 1 (.int .i64 P0.2))
        replace GG := hidb ((GG.out.set LA.out 0 (.int .i64 P0.1)).set LA.out 1 (.int .i64 P0.2))
        generalize (V13.setCell ⟨XA, 0, none⟩ (.int .i64 P0.1)).setCell ⟨XA, 1, none⟩ (.int .i64 P0.2) = V14 at *
        refine wpAnyH_ready (rs := [36]) (by kernel_rfl) (by simp) ?_
        refine AllReadyH.cons rfl (fun K hK => ?_) AllReadyH.nil
        obtain ⟨z0, z1⟩ := KB.out.c2
        obtain ⟨y0, y1⟩ := KB.out.f2
        go_simp
        refine hK.out _ _ ?_ (fun hHeld => ?_)
        · (try dsimp only); exact HC.out _ ((GG.out.set LB.out _ _).set LB.out _ _)
        clear hK K
        have QB := hidb (At.fill2 (KB.out.has rfl) (.int .i64 P1.1) (.int .i64 P1.2))
        replace KB := QB
        clear QB z0 z1 y0 y1
        replace KA := hidb ((KA.out.skip NBA.out 0 (.int .i64 P1.1)).skip NBA.out 1 (.int .i64 P1.2))
        replace KC := hidb ((KC.out.skip (fun e => NCB.out e.symm) 0 (.int .i64 P1.1)).skip (fun e => NCB.out e.symm) 1 (.int .i64 P1.2))
        replace GG := hidb ((GG.out.set LB.out 0 (.int .i64 P1.1)).set LB.out 1 (.int .i64 P1.2))
        generalize (V14.setCell ⟨XB, 0, none⟩ (.int .i64 P1.1)).setCell ⟨XB, 1, none⟩ (.int .i64 P1.2) = V15 at *
        refine wpAnyH_ready (rs := [37]) (by kernel_rfl) (by simp) ?_
        refine AllReadyH.cons rfl (fun K hK => ?_) AllReadyH.nil
        obtain ⟨z0, z1⟩ := KC.out.c2
        obtain ⟨y0, y1⟩ := KC.out.f2
        go_simp
        refine hK.out _ _ ?_ (fun hHeld => ?_)
        · (try dsimp only); exact HC.out _ ((GG.out.set LC.out _ _).set LC.out _ _)
        clear hK K
        have QC := hidb (At.fill2 (KC.out.has rfl) (.int .i64 P2.1) (.int .i64 P2.2))
        replace KC := QC
        clear QC z0 z1 y0 y1
        replace KA := hidb ((KA.out.skip NCA.out 0 (.int .i64 P2.1)).skip NCA.out 1 (.int .i64 P2.2))
        replace KB := hidb ((KB.out.skip NCB.out 0 (.int .i64 P2.1)).skip NCB.out 1 (.int .i64 P2.2))
        replace GG := hidb ((GG.out.set LC.out 0 (.int .i64 P2.1)).set LC.out 1 (.int .i64 P2.2))
        generalize (V15.setCell ⟨XC, 0, none⟩ (.int .i64 P2.1)).setCell ⟨XC, 1, none⟩ (.int .i64 P2.2) = V16 at *
        refine wpAnyH_done (by kernel_rfl) ?_ _
        go_wp2_with fail
        go_meet
        exact ⟨XA, XB, XC, rfl, rfl, rfl, hidb ⟨HT0.out.below GG.out.out, KA.out, KB.out, KC.out, by have := LA.out; have := HCLs.out; omega, by have := LB.out; have := HCLs.out; omega, by have := LC.out; have := HCLs.out; omega⟩⟩
      · skip
        go_simp
        refine hK.out _ _ ?_ (fun hHeld => ?_)
        · (try dsimp only); exact HC.out _ (GG.out.alloc _)
        clear hK K
        have KC := hidb (At.new2 V11 (.int .i64 0) (.int .i64 0) 52)
        obtain ⟨XC, hXC⟩ : ∃ z, z = V11.heap.size := ⟨_, rfl⟩
        have LC := hidb (show W.heap.size ≤ XC by rw [hXC]; exact GG.out.out.size)
        have NCA := hidb (show ¬ XC = XA by have := KA.out.lt; omega)
        replace KA := hidb (KA.out.alloc (.cells #[.int .i64 0, .int .i64 0] 52))
        rw [← hXC] at KC ⊢
        clear hXC
        replace GG := hidb (GG.out.alloc (.cells #[.int .i64 0, .int .i64 0] 52))
        generalize V11.alloc (.cells #[.int .i64 0, .int .i64 0] 52) = V17 at *
        refine wpAnyH_ready (rs := [33]) (by kernel_rfl) (by simp) ?_
        refine AllReadyH.cons rfl (fun K hK => ?_) AllReadyH.nil
        go_simp
        refine hK.out _ _ ?_ (fun hHeld => ?_)
        · (try dsimp only); exact HC.out _ (GG.out.alloc _)
        clear hK K
        have KB := hidb (At.new2 V17 (.int .i64 0) (.int .i64 0) 52)
        obtain ⟨XB, hXB⟩ : ∃ z, z = V17.heap.size := ⟨_, rfl⟩
        have LB := hidb (show W.heap.size ≤ XB by rw [hXB]; exact GG.out.out.size)
        have NBA := hidb (show ¬ XB = XA by have := KA.out.lt; omega)
        replace KA := hidb (KA.out.alloc (.cells #[.int .i64 0, .int .i64 0] 52))
        have NBC := hidb (show ¬ XB = XC by have := KC.out.lt; omega)
        replace KC := hidb (KC.out.alloc (.cells #[.int .i64 0, .int .i64 0] 52))
        rw [← hXB] at KB ⊢
        clear hXB
        replace GG := hidb (GG.out.alloc (.cells #[.int .i64 0, .int .i64 0] 52))
        generalize V17.alloc (.cells #[.int .i64 0, .int .i64 0] 52) = V18 at *
        refine wpAnyH_ready (rs := [35]) (by kernel_rfl) (by simp) ?_
        refine AllReadyH.cons rfl (fun K hK => ?_) AllReadyH.nil
        obtain ⟨z0, z1⟩ := KA.out.c2
        obtain ⟨y0, y1⟩ := KA.out.f2
        go_simp
        refine hK.out _ _ ?_ (fun hHeld => ?_)
        · (try dsimp only); exact HC.out _ ((GG.out.set LA.out _ _).set LA.out _ _)
        clear hK K
        have QA := hidb (At.fill2 (KA.out.has rfl) (.int .i64 P0.1) (.int .i64 P0.2))
        replace KA := QA
        clear QA z0 z1 y0 y1
        replace KB := hidb ((KB.out.skip (fun e => NBA.out e.symm) 0 (.int .i64 P0.1)).skip (fun e => NBA.out e.symm) 1 (.int .i64 P0.2))
        replace KC := hidb ((KC.out.skip (fun e => NCA.out e.symm) 0 (.int .i64 P0.1)).skip (fun e => NCA.out e.symm) 1 (.int .i64 P0.2))
        replace GG := hidb ((GG.out.set LA.out 0 (.int .i64 P0.1)).set LA.out 1 (.int .i64 P0.2))
        generalize (V18.setCell ⟨XA, 0, none⟩ (.int .i64 P0.1)).setCell ⟨XA, 1, none⟩ (.int .i64 P0.2) = V19 at *
        refine wpAnyH_ready (rs := [36]) (by kernel_rfl) (by simp) ?_
        refine AllReadyH.cons rfl (fun K hK => ?_) AllReadyH.nil
        obtain ⟨z0, z1⟩ := KB.out.c2
        obtain ⟨y0, y1⟩ := KB.out.f2
        go_simp
        refine hK.out _ _ ?_ (fun hHeld => ?_)
        · (try dsimp only); exact HC.out _ ((GG.out.set LB.out _ _).set LB.out _ _)
        clear hK K
        have QB := hidb (At.fill2 (KB.out.has rfl) (.int .i64 P1.1) (.int .i64 P1.2))
        replace KB := QB
        clear QB z0 z1 y0 y1
        replace KA := hidb ((KA.out.skip NBA.out 0 (.int .i64 P1.1)).skip NBA.out 1 (.int .i64 P1.2))
        replace KC := hidb ((KC.out.skip NBC.out 0 (.int .i64 P1.1)).skip NBC.out 1 (.int .i64 P1.2))
        replace GG := hidb ((GG.out.set LB.out 0 (.int .i64 P1.1)).set LB.out 1 (.int .i64 P1.2))
        generalize (V19.setCell ⟨XB, 0, none⟩ (.int .i64 P1.1)).setCell ⟨XB, 1, none⟩ (.int .i64 P1.2) = V20 at *
        refine wpAnyH_ready (rs := [37]) (by kernel_rfl) (by simp) ?_
        refine AllReadyH.cons rfl (fun K hK => ?_) AllReadyH.nil
        obtain ⟨z0, z1⟩ := KC.out.c2
        obtain ⟨y0, y1⟩ := KC.out.f2
        go_simp
        refine hK.out _ _ ?_ (fun hHeld => ?_)
        · (try dsimp only); exact HC.out _ ((GG.out.set LC.out _ _).set LC.out _ _)
        clear hK K
        have QC := hidb (At.fill2 (KC.out.has rfl) (.int .i64 P2.1) (.int .i64 P2.2))
        replace KC := QC
        clear QC z0 z1 y0 y1
        replace KA := hidb ((KA.out.skip NCA.out 0 (.int .i64 P2.1)).skip NCA.out 1 (.int .i64 P2.2))
        replace KB := hidb ((KB.out.skip (fun e => NBC.out e.symm) 0 (.int .i64 P2.1)).skip (fun e => NBC.out e.symm) 1 (.int .i64 P2.2))
        replace GG := hidb ((GG.out.set LC.out 0 (.int .i64 P2.1)).set LC.out 1 (.int .i64 P2.2))
        generalize (V20.setCell ⟨XC, 0, none⟩ (.int .i64 P2.1)).setCell ⟨XC, 1, none⟩ (.int .i64 P2.2) = V21 at *
        refine wpAnyH_done (by kernel_rfl) ?_ _
        go_wp2_with fail
        go_meet
        exact ⟨XA, XB, XC, rfl, rfl, rfl, hidb ⟨HT0.out.below GG.out.out, KA.out, KB.out, KC.out, by have := LA.out; have := HCLs.out; omega, by have := LB.out; have := HCLs.out; omega, by have := LC.out; have := HCLs.out; omega⟩⟩
    · skip
      go_simp
      refine hK.out _ _ ?_ (fun hHeld => ?_)
      · (try dsimp only); exact HC.out _ (GG.out.alloc _)
      clear hK K
      have KB := hidb (At.new2 V0 (.int .i64 0) (.int .i64 0) 52)
      obtain ⟨XB, hXB⟩ : ∃ z, z = V0.heap.size := ⟨_, rfl⟩
      have LB := hidb (show W.heap.size ≤ XB by rw [hXB]; exact GG.out.out.size)
      rw [← hXB] at KB ⊢
      clear hXB
      replace GG := hidb (GG.out.alloc (.cells #[.int .i64 0, .int .i64 0] 52))
      generalize V0.alloc (.cells #[.int .i64 0, .int .i64 0] 52) = V22 at *
      refine wpAnyH_ready (rs := [32, 34]) (by kernel_rfl) (by simp) ?_
      refine AllReadyH.cons rfl (fun K hK => ?_) (AllReadyH.cons rfl (fun K hK => ?_) AllReadyH.nil)
      · skip
        go_simp
        refine hK.out _ _ ?_ (fun hHeld => ?_)
        · (try dsimp only); exact HC.out _ (GG.out.alloc _)
        clear hK K
        have KA := hidb (At.new2 V22 (.int .i64 0) (.int .i64 0) 52)
        obtain ⟨XA, hXA⟩ : ∃ z, z = V22.heap.size := ⟨_, rfl⟩
        have LA := hidb (show W.heap.size ≤ XA by rw [hXA]; exact GG.out.out.size)
        have NAB := hidb (show ¬ XA = XB by have := KB.out.lt; omega)
        replace KB := hidb (KB.out.alloc (.cells #[.int .i64 0, .int .i64 0] 52))
        rw [← hXA] at KA ⊢
        clear hXA
        replace GG := hidb (GG.out.alloc (.cells #[.int .i64 0, .int .i64 0] 52))
        generalize V22.alloc (.cells #[.int .i64 0, .int .i64 0] 52) = V23 at *
        refine wpAnyH_ready (rs := [34]) (by kernel_rfl) (by simp) ?_
        refine AllReadyH.cons rfl (fun K hK => ?_) AllReadyH.nil
        go_simp
        refine hK.out _ _ ?_ (fun hHeld => ?_)
        · (try dsimp only); exact HC.out _ (GG.out.alloc _)
        clear hK K
        have KC := hidb (At.new2 V23 (.int .i64 0) (.int .i64 0) 52)
        obtain ⟨XC, hXC⟩ : ∃ z, z = V23.heap.size := ⟨_, rfl⟩
        have LC := hidb (show W.heap.size ≤ XC by rw [hXC]; exact GG.out.out.size)
        have NCB := hidb (show ¬ XC = XB by have := KB.out.lt; omega)
        replace KB := hidb (KB.out.alloc (.cells #[.int .i64 0, .int .i64 0] 52))
        have NCA := hidb (show ¬ XC = XA by have := KA.out.lt; omega)
        replace KA := hidb (KA.out.alloc (.cells #[.int .i64 0, .int .i64 0] 52))
        rw [← hXC] at KC ⊢
        clear hXC
        replace GG := hidb (GG.out.alloc (.cells #[.int .i64 0, .int .i64 0] 52))
        generalize V23.alloc (.cells #[.int .i64 0, .int .i64 0] 52) = V24 at *
        refine wpAnyH_ready (rs := [35]) (by kernel_rfl) (by simp) ?_
        refine AllReadyH.cons rfl (fun K hK => ?_) AllReadyH.nil
        obtain ⟨z0, z1⟩ := KA.out.c2
        obtain ⟨y0, y1⟩ := KA.out.f2
        go_simp
        refine hK.out _ _ ?_ (fun hHeld => ?_)
        · (try dsimp only); exact HC.out _ ((GG.out.set LA.out _ _).set LA.out _ _)
        clear hK K
        have QA := hidb (At.fill2 (KA.out.has rfl) (.int .i64 P0.1) (.int .i64 P0.2))
        replace KA := QA
        clear QA z0 z1 y0 y1
        replace KB := hidb ((KB.out.skip NAB.out 0 (.int .i64 P0.1)).skip NAB.out 1 (.int .i64 P0.2))
        replace KC := hidb ((KC.out.skip (fun e => NCA.out e.symm) 0 (.int .i64 P0.1)).skip (fun e => NCA.out e.symm) 1 (.int .i64 P0.2))
        replace GG := hidb ((GG.out.set LA.out 0 (.int .i64 P0.1)).set LA.out 1 (.int .i64 P0.2))
        generalize (V24.setCell ⟨XA, 0, none⟩ (.int .i64 P0.1)).setCell ⟨XA, 1, none⟩ (.int .i64 P0.2) = V25 at *
        refine wpAnyH_ready (rs := [36]) (by kernel_rfl) (by simp) ?_
        refine AllReadyH.cons rfl (fun K hK => ?_) AllReadyH.nil
        obtain ⟨z0, z1⟩ := KB.out.c2
        obtain ⟨y0, y1⟩ := KB.out.f2
        go_simp
        refine hK.out _ _ ?_ (fun hHeld => ?_)
        · (try dsimp only); exact HC.out _ ((GG.out.set LB.out _ _).set LB.out _ _)
        clear hK K
        have QB := hidb (At.fill2 (KB.out.has rfl) (.int .i64 P1.1) (.int .i64 P1.2))
        replace KB := QB
        clear QB z0 z1 y0 y1
        replace KA := hidb ((KA.out.skip (fun e => NAB.out e.symm) 0 (.int .i64 P1.1)).skip (fun e => NAB.out e.symm) 1 (.int .i64 P1.2))
        replace KC := hidb ((KC.out.skip (fun e => NCB.out e.symm) 0 (.int .i64 P1.1)).skip (fun e => NCB.out e.symm) 1 (.int .i64 P1.2))
        replace GG := hidb ((GG.out.set LB.out 0 (.int .i64 P1.1)).set LB.out 1 (.int .i64 P1.2))
        generalize (V25.setCell ⟨XB, 0, none⟩ (.int .i64 P1.1)).setCell ⟨XB, 1, none⟩ (.int .i64 P1.2) = V26 at *
        refine wpAnyH_ready (rs := [37]) (by kernel_rfl) (by simp) ?_
        refine AllReadyH.cons rfl (fun K hK => ?_) AllReadyH.nil
        obtain ⟨z0, z1⟩ := KC.out.c2
        obtain ⟨y0, y1⟩ := KC.out.f2
        go_simp
        refine hK.out _ _ ?_ (fun hHeld => ?_)
        · (try dsimp only); exact HC.out _ ((GG.out.set LC.out _ _).set LC.out _ _)
        clear hK K
        have QC := hidb (At.fill2 (KC.out.has rfl) (.int .i64 P2.1) (.int .i64 P2.2))
        replace KC := QC
        clear QC z0 z1 y0 y1
        replace KA := hidb ((KA.out.skip NCA.out 0 (.int .i64 P2.1)).skip NCA.out 1 (.int .i64 P2.2))
        replace KB := hidb ((KB.out.skip NCB.out 0 (.int .i64 P2.1)).skip NCB.out 1 (.int .i64 P2.2))
        replace GG := hidb ((GG.out.set LC.out 0 (.int .i64 P2.1)).set LC.out 1 (.int .i64 P2.2))
        generalize (V26.setCell ⟨XC, 0, none⟩ (.int .i64 P2.1)).setCell ⟨XC, 1, none⟩ (.int .i64 P2.2) = V27 at *
        refine wpAnyH_done (by kernel_rfl) ?_ _
        go_wp2_with fail
        go_meet
        exact ⟨XA, XB, XC, rfl, rfl, rfl, hidb ⟨HT0.out.below GG.out.out, KA.out, KB.out, KC.out, by have := LA.out; have := HCLs.out; omega, by have := LB.out; have := HCLs.out; omega, by have := LC.out; have := HCLs.out; omega⟩⟩
      · skip
        go_simp
        refine hK.out _ _ ?_ (fun hHeld => ?_)
        · (try dsimp only); exact HC.out _ (GG.out.alloc _)
        clear hK K
        have KC := hidb (At.new2 V22 (.int .i64 0) (.int .i64 0) 52)
        obtain ⟨XC, hXC⟩ : ∃ z, z = V22.heap.size := ⟨_, rfl⟩
        have LC := hidb (show W.heap.size ≤ XC by rw [hXC]; exact GG.out.out.size)
        have NCB := hidb (show ¬ XC = XB by have := KB.out.lt; omega)
        replace KB := hidb (KB.out.alloc (.cells #[.int .i64 0, .int .i64 0] 52))
        rw [← hXC] at KC ⊢
        clear hXC
        replace GG := hidb (GG.out.alloc (.cells #[.int .i64 0, .int .i64 0] 52))
        generalize V22.alloc (.cells #[.int .i64 0, .int .i64 0] 52) = V28 at *
        refine wpAnyH_ready (rs := [32]) (by kernel_rfl) (by simp) ?_
        refine AllReadyH.cons rfl (fun K hK => ?_) AllReadyH.nil
        go_simp
        refine hK.out _ _ ?_ (fun hHeld => ?_)
        · (try dsimp only); exact HC.out _ (GG.out.alloc _)
        clear hK K
        have KA := hidb (At.new2 V28 (.int .i64 0) (.int .i64 0) 52)
        obtain ⟨XA, hXA⟩ : ∃ z, z = V28.heap.size := ⟨_, rfl⟩
        have LA := hidb (show W.heap.size ≤ XA by rw [hXA]; exact GG.out.out.size)
        have NAB := hidb (show ¬ XA = XB by have := KB.out.lt; omega)
        replace KB := hidb (KB.out.alloc (.cells #[.int .i64 0, .int .i64 0] 52))
        have NAC := hidb (show ¬ XA = XC by have := KC.out.lt; omega)
        replace KC := hidb (KC.out.alloc (.cells #[.int .i64 0, .int .i64 0] 52))
        rw [← hXA] at KA ⊢
        clear hXA
        replace GG := hidb (GG.out.alloc (.cells #[.int .i64 0, .int .i64 0] 52))
        generalize V28.alloc (.cells #[.int .i64 0, .int .i64 0] 52) = V29 at *
        refine wpAnyH_ready (rs := [35]) (by kernel_rfl) (by simp) ?_
        refine AllReadyH.cons rfl (fun K hK => ?_) AllReadyH.nil
        obtain ⟨z0, z1⟩ := KA.out.c2
        obtain ⟨y0, y1⟩ := KA.out.f2
        go_simp
        refine hK.out _ _ ?_ (fun hHeld => ?_)
        · (try dsimp only); exact HC.out _ ((GG.out.set LA.out _ _).set LA.out _ _)
        clear hK K
        have QA := hidb (At.fill2 (KA.out.has rfl) (.int .i64 P0.1) (.int .i64 P0.2))
        replace KA := QA
        clear QA z0 z1 y0 y1
        replace KB := hidb ((KB.out.skip NAB.out 0 (.int .i64 P0.1)).skip NAB.out 1 (.int .i64 P0.2))
        replace KC := hidb ((KC.out.skip NAC.out 0 (.int .i64 P0.1)).skip NAC.out 1 (.int .i64 P0.2))
        replace GG := hidb ((GG.out.set LA.out 0 (.int .i64 P0.1)).set LA.out 1 (.int .i64 P0.2))
        generalize (V29.setCell ⟨XA, 0, none⟩ (.int .i64 P0.1)).setCell ⟨XA, 1, none⟩ (.int .i64 P0.2) = V30 at *
        refine wpAnyH_ready (rs := [36]) (by kernel_rfl) (by simp) ?_
        refine AllReadyH.cons rfl (fun K hK => ?_) AllReadyH.nil
        obtain ⟨z0, z1⟩ := KB.out.c2
        obtain ⟨y0, y1⟩ := KB.out.f2
        go_simp
        refine hK.out _ _ ?_ (fun hHeld => ?_)
        · (try dsimp only); exact HC.out _ ((GG.out.set LB.out _ _).set LB.out _ _)
        clear hK K
        have QB := hidb (At.fill2 (KB.out.has rfl) (.int .i64 P1.1) (.int .i64 P1.2))
        replace KB := QB
        clear QB z0 z1 y0 y1
        replace KA := hidb ((KA.out.skip (fun e => NAB.out e.symm) 0 (.int .i64 P1.1)).skip (fun e => NAB.out e.symm) 1 (.int .i64 P1.2))
        replace KC := hidb ((KC.out.skip (fun e => NCB.out e.symm) 0 (.int .i64 P1.1)).skip (fun e => NCB.out e.symm) 1 (.int .i64 P1.2))
        replace GG := hidb ((GG.out.set LB.out 0 (.int .i64 P1.1)).set LB.out 1 (.int .i64 P1.2))
        generalize (V30.setCell ⟨XB, 0, none⟩ (.int .i64 P1.1)).setCell ⟨XB, 1, none⟩ (.int .i64 P1.2) = V31 at *
        refine wpAnyH_ready (rs := [37]) (by kernel_rfl) (by simp) ?_
        refine AllReadyH.cons rfl (fun K hK => ?_) AllReadyH.nil
        obtain ⟨z0, z1⟩ := KC.out.c2
        obtain ⟨y0, y1⟩ := KC.out.f2
        go_simp
        refine hK.out _ _ ?_ (fun hHeld => ?_)
        · (try dsimp only); exact HC.out _ ((GG.out.set LC.out _ _).set LC.out _ _)
        clear hK K
        have QC := hidb (At.fill2 (KC.out.has rfl) (.int .i64 P2.1) (.int .i64 P2.2))
        replace KC := QC
        clear QC z0 z1 y0 y1
        replace KA := hidb ((KA.out.skip (fun e => NAC.out e.symm) 0 (.int .i64 P2.1)).skip (fun e => NAC.out e.symm) 1 (.int .i64 P2.2))
        replace KB := hidb ((KB.out.skip NCB.out 0 (.int .i64 P2.1)).skip NCB.out 1 (.int .i64 P2.2))
        replace GG := hidb ((GG.out.set LC.out 0 (.int .i64 P2.1)).set LC.out 1 (.int .i64 P2.2))
        generalize (V31.setCell ⟨XC, 0, none⟩ (.int .i64 P2.1)).setCell ⟨XC, 1, none⟩ (.int .i64 P2.2) = V32 at *
        refine wpAnyH_done (by kernel_rfl) ?_ _
        go_wp2_with fail
        go_meet
        exact ⟨XA, XB, XC, rfl, rfl, rfl, hidb ⟨HT0.out.below GG.out.out, KA.out, KB.out, KC.out, by have := LA.out; have := HCLs.out; omega, by have := LB.out; have := HCLs.out; omega, by have := LC.out; have := HCLs.out; omega⟩⟩
    · skip
      go_simp
      refine hK.out _ _ ?_ (fun hHeld => ?_)
      · (try dsimp only); exact HC.out _ (GG.out.alloc _)
      clear hK K
      have KC := hidb (At.new2 V0 (.int .i64 0) (.int .i64 0) 52)
      obtain ⟨XC, hXC⟩ : ∃ z, z = V0.heap.size := ⟨_, rfl⟩
      have LC := hidb (show W.heap.size ≤ XC by rw [hXC]; exact GG.out.out.size)
      rw [← hXC] at KC ⊢
      clear hXC
      replace GG := hidb (GG.out.alloc (.cells #[.int .i64 0, .int .i64 0] 52))
      generalize V0.alloc (.cells #[.int .i64 0, .int .i64 0] 52) = V33 at *
      refine wpAnyH_ready (rs := [32, 33]) (by kernel_rfl) (by simp) ?_
      refine AllReadyH.cons rfl (fun K hK => ?_) (AllReadyH.cons rfl (fun K hK => ?_) AllReadyH.nil)
      · skip
        go_simp
        refine hK.out _ _ ?_ (fun hHeld => ?_)
        · (try dsimp only); exact HC.out _ (GG.out.alloc _)
        clear hK K
        have KA := hidb (At.new2 V33 (.int .i64 0) (.int .i64 0) 52)
        obtain ⟨XA, hXA⟩ : ∃ z, z = V33.heap.size := ⟨_, rfl⟩
        have LA := hidb (show W.heap.size ≤ XA by rw [hXA]; exact GG.out.out.size)
        have NAC := hidb (show ¬ XA = XC by have := KC.out.lt; omega)
        replace KC := hidb (KC.out.alloc (.cells #[.int .i64 0, .int .i64 0] 52))
        rw [← hXA] at KA ⊢
        clear hXA
        replace GG := hidb (GG.out.alloc (.cells #[.int .i64 0, .int .i64 0] 52))
        generalize V33.alloc (.cells #[.int .i64 0, .int .i64 0] 52) = V34 at *
        refine wpAnyH_ready (rs := [33]) (by kernel_rfl) (by simp) ?_
        refine AllReadyH.cons rfl (fun K hK => ?_) AllReadyH.nil
        go_simp
        refine hK.out _ _ ?_ (fun hHeld => ?_)
        · (try dsimp only); exact HC.out _ (GG.out.alloc _)
        clear hK K
        have KB := hidb (At.new2 V34 (.int .i64 0) (.int .i64 0) 52)
        obtain ⟨XB, hXB⟩ : ∃ z, z = V34.heap.size := ⟨_, rfl⟩
        have LB := hidb (show W.heap.size ≤ XB by rw [hXB]; exact GG.out.out.size)
        have NBC := hidb (show ¬ XB = XC by have := KC.out.lt; omega)
        replace KC := hidb (KC.out.alloc (.cells #[.int .i64 0, .int .i64 0] 52))
        have NBA := hidb (show ¬ XB = XA by have := KA.out.lt; omega)
        replace KA := hidb (KA.out.alloc (.cells #[.int .i64 0, .int .i64 0] 52))
        rw [← hXB] at KB ⊢
        clear hXB
        replace GG := hidb (GG.out.alloc (.cells #[.int .i64 0, .int .i64 0] 52))
        generalize V34.alloc (.cells #[.int .i64 0, .int .i64 0] 52) = V35 at *
        refine wpAnyH_ready (rs := [35]) (by kernel_rfl) (by simp) ?_
        refine AllReadyH.cons rfl (fun K hK => ?_) AllReadyH.nil
        obtain ⟨z0, z1⟩ := KA.out.c2
        obtain ⟨y0, y1⟩ := KA.out.f2
        go_simp
        refine hK.out _ _ ?_ (fun hHeld => ?_)
        · (try dsimp only); exact HC.out _ ((GG.out.set LA.out _ _).set LA.out _ _)
        clear hK K
        have QA := hidb (At.fill2 (KA.out.has rfl) (.int .i64 P0.1) (.int .i64 P0.2))
        replace KA := QA
        clear QA z0 z1 y0 y1
        replace KB := hidb ((KB.out.skip (fun e => NBA.out e.symm) 0 (.int .i64 P0.1)).skip (fun e => NBA.out e.symm) 1 (.int .i64 P0.2))
        replace KC := hidb ((KC.out.skip NAC.out 0 (.int .i64 P0.1)).skip NAC.out 1 (.int .i64 P0.2))
        replace GG := hidb ((GG.out.set LA.out 0 (.int .i64 P0.1)).set LA.out 1 (.int .i64 P0.2))
        generalize (V35.setCell ⟨XA, 0, none⟩ (.int .i64 P0.1)).setCell ⟨XA, 1, none⟩ (.int .i64 P0.2) = V36 at *
        refine wpAnyH_ready (rs := [36]) (by kernel_rfl) (by simp) ?_
        refine AllReadyH.cons rfl (fun K hK => ?_) AllReadyH.nil
        obtain ⟨z0, z1⟩ := KB.out.c2
        obtain ⟨y0, y1⟩ := KB.out.f2
        go_simp
        refine hK.out _ _ ?_ (fun hHeld => ?_)
        · (try dsimp only); exact HC.out _ ((GG.out.set LB.out _ _).set LB.out _ _)
        clear hK K
        have QB := hidb (At.fill2 (KB.out.has rfl) (.int .i64 P1.1) (.int .i64 P1.2))
        replace KB := QB
        clear QB z0 z1 y0 y1
        replace KA := hidb ((KA.out.skip NBA.out 0 (.int .i64 P1.1)).skip NBA.out 1 (.int .i64 P1.2))
        replace KC := hidb ((KC.out.skip NBC.out 0 (.int .i64 P1.1)).skip NBC.out 1 (.int .i64 P1.2))
        replace GG := hidb ((GG.out.set LB.out 0 (.int .i64 P1.1)).set LB.out 1 (.int .i64 P1.2))
        generalize (V36.setCell ⟨XB, 0, none⟩ (.int .i64 P1.1)).setCell ⟨XB, 1, none⟩ (.int .i64 P1.2) = V37 at *
        refine wpAnyH_ready (rs := [37]) (by kernel_rfl) (by simp) ?_
        refine AllReadyH.cons rfl (fun K hK => ?_) AllReadyH.nil
        obtain ⟨z0, z1⟩ := KC.out.c2
        obtain ⟨y0, y1⟩ := KC.out.f2
        go_simp
        refine hK.out _ _ ?_ (fun hHeld => ?_)
        · (try dsimp only); exact HC.out _ ((GG.out.set LC.out _ _).set LC.out _ _)
        clear hK K
        have QC := hidb (At.fill2 (KC.out.has rfl) (.int .i64 P2.1) (.int .i64 P2.2))
        replace KC := QC
        clear QC z0 z1 y0 y1
        replace KA := hidb ((KA.out.skip (fun e => NAC.out e.symm) 0 (.int .i64 P2.1)).skip (fun e => NAC.out e.symm) 1 (.int .i64 P2.2))
        replace KB := hidb ((KB.out.skip (fun e => NBC.out e.symm) 0 (.int .i64 P2.1)).skip (fun e => NBC.out e.symm) 1 (.int .i64 P2.2))
        replace GG := hidb ((GG.out.set LC.out 0 (.int .i64 P2.1)).set LC.out 1 (.int .i64 P2.2))
        generalize (V37.setCell ⟨XC, 0, none⟩ (.int .i64 P2.1)).setCell ⟨XC, 1, none⟩ (.int .i64 P2.2) = V38 at *
        refine wpAnyH_done (by kernel_rfl) ?_ _
        go_wp2_with fail
        go_meet
        exact ⟨XA, XB, XC, rfl, rfl, rfl, hidb ⟨HT0.out.below GG.out.out, KA.out, KB.out, KC.out, by have := LA.out; have := HCLs.out; omega, by have := LB.out; have := HCLs.out; omega, by have := LC.out; have := HCLs.out; omega⟩⟩
      · skip
        go_simp
        refine hK.out _ _ ?_ (fun hHeld => ?_)
        · (try dsimp only); exact HC.out _ (GG.out.alloc _)
        clear hK K
        have KB := hidb (At.new2 V33 (.int .i64 0) (.int .i64 0) 52)
        obtain ⟨XB, hXB⟩ : ∃ z, z = V33.heap.size := ⟨_, rfl⟩
        have LB := hidb (show W.heap.size ≤ XB by rw [hXB]; exact GG.out.out.size)
        have NBC := hidb (show ¬ XB = XC by have := KC.out.lt; omega)
        replace KC := hidb (KC.out.alloc (.cells #[.int .i64 0, .int .i64 0] 52))
        rw [← hXB] at KB ⊢
        clear hXB
        replace GG := hidb (GG.out.alloc (.cells #[.int .i64 0, .int .i64 0] 52))
        generalize V33.alloc (.cells #[.int .i64 0, .int .i64 0] 52) = V39 at *
        refine wpAnyH_ready (rs := [32]) (by kernel_rfl) (by simp) ?_
        refine AllReadyH.cons rfl (fun K hK => ?_) AllReadyH.nil
        go_simp
        refine hK.out _ _ ?_ (fun hHeld => ?_)
        · (try dsimp only); exact HC.out _ (GG.out.alloc _)
        clear hK K
        have KA := hidb (At.new2 V39 (.int .i64 0) (.int .i64 0) 52)
        obtain ⟨XA, hXA⟩ : ∃ z, z = V39.heap.size := ⟨_, rfl⟩
        have LA := hidb (show W.heap.size ≤ XA by rw [hXA]; exact GG.out.out.size)
        have NAC := hidb (show ¬ XA = XC by have := KC.out.lt; omega)
        replace KC := hidb (KC.out.alloc (.cells #[.int .i64 0, .int .i64 0] 52))
        have NAB := hidb (show ¬ XA = XB by have := KB.out.lt; omega)
        replace KB := hidb (KB.out.alloc (.cells #[.int .i64 0, .int .i64 0] 52))
        rw [← hXA] at KA ⊢
        clear hXA
        replace GG := hidb (GG.out.alloc (.cells #[.int .i64 0, .int .i64 0] 52))
        generalize V39.alloc (.cells #[.int .i64 0, .int .i64 0] 52) = V40 at *
        refine wpAnyH_ready (rs := [35]) (by kernel_rfl) (by simp) ?_
        refine AllReadyH.cons rfl (fun K hK => ?_) AllReadyH.nil
        obtain ⟨z0, z1⟩ := KA.out.c2
        obtain ⟨y0, y1⟩ := KA.out.f2
        go_simp
        refine hK.out _ _ ?_ (fun hHeld => ?_)
        · (try dsimp only); exact HC.out _ ((GG.out.set LA.out _ _).set LA.out _ _)
        clear hK K
        have QA := hidb (At.fill2 (KA.out.has rfl) (.int .i64 P0.1) (.int .i64 P0.2))
        replace KA := QA
        clear QA z0 z1 y0 y1
        replace KB := hidb ((KB.out.skip NAB.out 0 (.int .i64 P0.1)).skip NAB.out 1 (.int .i64 P0.2))
        replace KC := hidb ((KC.out.skip NAC.out 0 (.int .i64 P0.1)).skip NAC.out 1 (.int .i64 P0.2))
        replace GG := hidb ((GG.out.set LA.out 0 (.int .i64 P0.1)).set LA.out 1 (.int .i64 P0.2))
        generalize (V40.setCell ⟨XA, 0, none⟩ (.int .i64 P0.1)).setCell ⟨XA, 1, none⟩ (.int .i64 P0.2) = V41 at *
        refine wpAnyH_ready (rs := [36]) (by kernel_rfl) (by simp) ?_
        refine AllReadyH.cons rfl (fun K hK => ?_) AllReadyH.nil
        obtain ⟨z0, z1⟩ := KB.out.c2
        obtain ⟨y0, y1⟩ := KB.out.f2
        go_simp
        refine hK.out _ _ ?_ (fun hHeld => ?_)
        · (try dsimp only); exact HC.out _ ((GG.out.set LB.out _ _).set LB.out _ _)
        clear hK K
        have QB := hidb (At.fill2 (KB.out.has rfl) (.int .i64 P1.1) (.int .i64 P1.2))
        replace KB := QB
        clear QB z0 z1 y0 y1
        replace KA := hidb ((KA.out.skip (fun e => NAB.out e.symm) 0 (.int .i64 P1.1)).skip (fun e => NAB.out e.symm) 1 (.int .i64 P1.2))
        replace KC := hidb ((KC.out.skip NBC.out 0 (.int .i64 P1.1)).skip NBC.out 1 (.int .i64 P1.2))
        replace GG := hidb ((GG.out.set LB.out 0 (.int .i64 P1.1)).set LB.out 1 (.int .i64 P1.2))
        generalize (V41.setCell ⟨XB, 0, none⟩ (.int .i64 P1.1)).setCell ⟨XB, 1, none⟩ (.int .i64 P1.2) = V42 at *
        refine wpAnyH_ready (rs := [37]) (by kernel_rfl) (by simp) ?_
        refine AllReadyH.cons rfl (fun K hK => ?_) AllReadyH.nil
        obtain ⟨z0, z1⟩ := KC.out.c2
        obtain ⟨y0, y1⟩ := KC.out.f2
        go_simp
        refine hK.out _ _ ?_ (fun hHeld => ?_)
        · (try dsimp only); exact HC.out _ ((GG.out.set LC.out _ _).set LC.out _ _)
        clear hK K
        have QC := hidb (At.fill2 (KC.out.has rfl) (.int .i64 P2.1) (.int .i64 P2.2))
        replace KC := QC
        clear QC z0 z1 y0 y1
        replace KA := hidb ((KA.out.skip (fun e => NAC.out e.symm) 0 (.int .i64 P2.1)).skip (fun e => NAC.out e.symm) 1 (.int .i64 P2.2))
        replace KB := hidb ((KB.out.skip (fun e => NBC.out e.symm) 0 (.int .i64 P2.1)).skip (fun e => NBC.out e.symm) 1 (.int .i64 P2.2))
        replace GG := hidb ((GG.out.set LC.out 0 (.int .i64 P2.1)).set LC.out 1 (.int .i64 P2.2))
        generalize (V42.setCell ⟨XC, 0, none⟩ (.int .i64 P2.1)).setCell ⟨XC, 1, none⟩ (.int .i64 P2.2) = V43 at *
        refine wpAnyH_done (by kernel_rfl) ?_ _
        go_wp2_with fail
        go_meet
        exact ⟨XA, XB, XC, rfl, rfl, rfl, hidb ⟨HT0.out.below GG.out.out, KA.out, KB.out, KC.out, by have := LA.out; have := HCLs.out; omega, by have := LB.out; have := HCLs.out; omega, by have := LC.out; have := HCLs.out; omega⟩⟩
  case rest =>
    obtain ⟨XA, XB, XC, rfl, rfl, rfl, F⟩ := hcut
    clear GG HC i0 i2 s0 s1 s2 HT0 HCLs
    obtain ⟨za0, za1⟩ := F.out.a.c2
    obtain ⟨zb0, zb1⟩ := F.out.b.c2
    obtain ⟨zc0, zc1⟩ := F.out.c.c2
    go_upto_region 3 with (go_at_call 69; refine (HTn.out _).mono ?_; rintro e w3 ⟨rfl, hB⟩; replace F := hidb (F.out.below hB.out); clear hB za0 za1 zb0 zb1 zc0 zc1)
    obtain ⟨t0, -, -, -, -⟩ := HTt.out _ _ F.out.th
    by_cases q1 : most < mx
    · have hres := hidb (HF3.out q1)
      clear HF1 HF3 HF4 HF5 HF6
      go_wp2
      go_ret
      exact ⟨C, by rw [hres.out]; rfl, HN0.out, F.out.th⟩
    · have HCl2 := hidb (HCl.out _ F.out.th)
      cases bcl with
      | true =>
        by_cases q2 : L = 4
        · have hres := hidb (HF4.out rfl q2)
          have q3 : ((L : Int) == 4) = true := by rw [q2]; rfl
          clear HF1 HF3 HF4 HF5 HF6 q2
          go_wp2_with (go_at_call 70; refine HCl2.out.mono ?_; rintro e w4 ⟨rfl, hB⟩; replace F := hidb (F.out.below hB.out); clear hB t0)
          go_ret
          exact ⟨C, by rw [hres.out]; rfl, HN0.out, F.out.th⟩
        · have q3 : ((L : Int) == 4) = false := by simp; omega
          have HFq := hidb (fun z3 z4 => HF1.out (by omega) (fun _ y => q2 y) z3 z4)
          clear HF1 HF3 HF4 q2
          go_upto_region 5 with (go_at_call 70; refine HCl2.out.mono ?_; rintro e w4 ⟨rfl, hB⟩; replace F := hidb (F.out.below hB.out); clear hB t0)
          by_cases he : ∀ y, y < n → okE S G P0 P1 P2 y
          · rw [emB_t (by rw [hn]; exact he)] at HEm
            by_cases hj : jnP (lsA S A) (P0, P2)
            · rw [jnB_t hj] at HJn
              have hres := hidb (HF6.out hj)
              clear HFq HF5 HF6 he hj
              refine wp_region_held_drew (S := (fun w' => w'.cell? ⟨Bi, k, none⟩ = some (.int .i64 (x1 : Int)) ∧ (w'.cell? ⟨XA, 0, none⟩ = some (.int .i64 P0.1) ∧ w'.cell? ⟨XA, 1, none⟩ = some (.int .i64 P0.2)) ∧ (w'.cell? ⟨XB, 0, none⟩ = some (.int .i64 P1.1) ∧ w'.cell? ⟨XB, 1, none⟩ = some (.int .i64 P1.2)) ∧ (w'.cell? ⟨XC, 0, none⟩ = some (.int .i64 P2.1) ∧ w'.cell? ⟨XC, 1, none⟩ = some (.int .i64 P2.2)))) (by kernel_rfl) ?_ (fun hHeld => ?_)
              · (try dsimp only); exact ⟨HNm.out _ _ (F.out.below (Gr.refl _).drew.out).th, (F.out.below (Gr.refl _).drew.out).a.c2, (F.out.below (Gr.refl _).drew.out).b.c2, (F.out.below (Gr.refl _).drew.out).c.c2⟩
              replace F := hidb (F.out.below (Gr.refl _).drew.out)
              clear HCl HCl2 HTn HTt
              refine wt (i := 0) (v := ?vg1q0x4) rfl ?hg1q0x4 ?rg1q0x4
              case hg1q0x4 => (intro w hSw; (try dsimp only at hSw); obtain ⟨z0, ⟨z1, z2⟩, ⟨z3, z4⟩, z5, z6⟩ := hSw; go_simp; try with_reducible rfl)
              (try simp only [Act.put, lq1, lq2, lq4, lq5, lq6])
              refine wt (i := 1) (v := ?vg1q1x7) rfl ?hg1q1x7 ?rg1q1x7
              case hg1q1x7 => (intro w hSw; (try dsimp only at hSw); obtain ⟨z0, ⟨z1, z2⟩, ⟨z3, z4⟩, z5, z6⟩ := hSw; go_simp; try with_reducible rfl)
              (try simp only [Act.put, lq1, lq2, lq3, lq4, lq5, lq6])
              refine wt (i := 2) (v := ?vg1q2x10) rfl ?hg1q2x10 ?rg1q2x10
              case hg1q2x10 => (intro w hSw; (try dsimp only at hSw); obtain ⟨z0, ⟨z1, z2⟩, ⟨z3, z4⟩, z5, z6⟩ := hSw; go_simp; try with_reducible rfl)
              (try simp only [Act.put, lq1, lq2, lq3, lq4, lq5, lq6])
              refine wt (i := 3) (v := ?vg1q3x13) rfl ?hg1q3x13 ?rg1q3x13
              case hg1q3x13 => (intro w hSw; (try dsimp only at hSw); obtain ⟨z0, ⟨z1, z2⟩, ⟨z3, z4⟩, z5, z6⟩ := hSw; go_simp; try with_reducible rfl)
              (try simp only [Act.put, lq1, lq2, lq3, lq4, lq5, lq6])
              refine wt (i := 4) (v := ?vg1q4x16) rfl ?hg1q4x16 ?rg1q4x16
              case hg1q4x16 => (intro w hSw; (try dsimp only at hSw); obtain ⟨z0, ⟨z1, z2⟩, ⟨z3, z4⟩, z5, z6⟩ := hSw; go_simp; try with_reducible rfl)
              (try simp only [Act.put, lq1, lq2, lq3, lq4, lq5, lq6])
              refine wt (i := 5) (v := ?vg1q5x19) rfl ?hg1q5x19 ?rg1q5x19
              case hg1q5x19 => (intro w hSw; (try dsimp only at hSw); obtain ⟨z0, ⟨z1, z2⟩, ⟨z3, z4⟩, z5, z6⟩ := hSw; go_simp; try with_reducible rfl)
              (try simp only [Act.put, lq1, lq2, lq3, lq4, lq5, lq6])
              refine wt (i := 6) (v := ?vg1q6x22) rfl ?hg1q6x22 ?rg1q6x22
              case hg1q6x22 => (intro w hSw; (try dsimp only at hSw); obtain ⟨z0, ⟨z1, z2⟩, ⟨z3, z4⟩, z5, z6⟩ := hSw; go_simp; try with_reducible rfl)
              (try simp only [Act.put, lq1, lq2, lq3, lq4, lq5, lq6])
              refine wt (i := 7) (v := ?vg1q7x25) rfl ?hg1q7x25 ?rg1q7x25
              case hg1q7x25 => (intro w hSw; (try dsimp only at hSw); obtain ⟨z0, ⟨z1, z2⟩, ⟨z3, z4⟩, z5, z6⟩ := hSw; go_simp; try with_reducible rfl)
              (try simp only [Act.put, lq1, lq2, lq3, lq4, lq5, lq6])
              refine wpAnyH_ready (rs := [8]) (by kernel_rfl) (by simp) ?_
              refine AllReadyH.cons rfl (fun K hK => ?_) AllReadyH.nil
              go_simp
              go_wp2_with (go_at_call 71; refine (HEm.out _ F.out.th).mono ?_; rintro e V1 ⟨v, rfl, hv, hvy, hT, hO⟩)
              refine hK.out _ _ ?_ (fun hHeld => ?_)
              · (try dsimp only); exact ⟨HNm.out _ _ (F.out.new hO hT).th, (F.out.new hO hT).a.c2, (F.out.new hO hT).b.c2, (F.out.new hO hT).c.c2⟩
              clear hK K
              replace F := hidb (F.out.new hO hT)
              have HNi := hidb (HNs.out v hv hvy)
              clear hv hvy hT hO
              refine wt (i := 9) (v := ?vg1q9x38) rfl ?hg1q9x38 ?rg1q9x38
              case hg1q9x38 => (intro w hSw; (try dsimp only at hSw); obtain ⟨z0, ⟨z1, z2⟩, ⟨z3, z4⟩, z5, z6⟩ := hSw; go_simp; try with_reducible rfl)
              (try simp only [Act.put, lq1, lq2, lq3, lq4, lq5, lq6])
              refine wt (i := 10) (v := ?vg1q10x41) rfl ?hg1q10x41 ?rg1q10x41
              case hg1q10x41 => (intro w hSw; (try dsimp only at hSw); obtain ⟨z0, ⟨z1, z2⟩, ⟨z3, z4⟩, z5, z6⟩ := hSw; go_simp; try with_reducible rfl)
              (try simp only [Act.put, lq1, lq2, lq3, lq4, lq5, lq6])
              refine wt (i := 11) (v := ?vg1q11x44) rfl ?hg1q11x44 ?rg1q11x44
              case hg1q11x44 => (intro w hSw; (try dsimp only at hSw); obtain ⟨z0, ⟨z1, z2⟩, ⟨z3, z4⟩, z5, z6⟩ := hSw; go_simp; try with_reducible rfl)
              (try simp only [Act.put, lq1, lq2, lq3, lq4, lq5, lq6])
              refine wt (i := 12) (v := ?vg1q12x47) rfl ?hg1q12x47 ?rg1q12x47
              case hg1q12x47 => (intro w hSw; (try dsimp only at hSw); obtain ⟨z0, ⟨z1, z2⟩, ⟨z3, z4⟩, z5, z6⟩ := hSw; go_simp; try with_reducible rfl)
              (try simp only [Act.put, lq1, lq2, lq3, lq4, lq5, lq6])
              refine wt (i := 13) (v := ?vg1q13x50) rfl ?hg1q13x50 ?rg1q13x50
              case hg1q13x50 => (intro w hSw; (try dsimp only at hSw); obtain ⟨z0, ⟨z1, z2⟩, ⟨z3, z4⟩, z5, z6⟩ := hSw; go_simp; try with_reducible rfl)
              (try simp only [Act.put, lq1, lq2, lq3, lq4, lq5, lq6])
              refine wpAnyH_ready (rs := [14]) (by kernel_rfl) (by simp) ?_
              refine AllReadyH.cons rfl (fun K hK => ?_) AllReadyH.nil
              go_simp
              go_wp2_with (go_at_call 72; refine (HJn.out _ _ F.out.th HNi.out).mono ?_; rintro e V2 ⟨rfl, hB⟩)
              refine hK.out _ _ ?_ (fun hHeld => ?_)
              · (try dsimp only); exact ⟨HNm.out _ _ (F.out.below hB.out).th, (F.out.below hB.out).a.c2, (F.out.below hB.out).b.c2, (F.out.below hB.out).c.c2⟩
              clear hK K
              replace F := hidb (F.out.below hB.out)
              clear hB
              refine wt (i := 15) (v := ?vg1q15x62) rfl ?hg1q15x62 ?rg1q15x62
              case hg1q15x62 => (intro w hSw; (try dsimp only at hSw); obtain ⟨z0, ⟨z1, z2⟩, ⟨z3, z4⟩, z5, z6⟩ := hSw; go_simp; try with_reducible rfl)
              (try simp only [Act.put, lq1, lq2, lq3, lq4, lq5, lq6])
              refine wt (i := 16) (v := ?vg1q16x65) rfl ?hg1q16x65 ?rg1q16x65
              case hg1q16x65 => (intro w hSw; (try dsimp only at hSw); obtain ⟨z0, ⟨z1, z2⟩, ⟨z3, z4⟩, z5, z6⟩ := hSw; go_simp; try with_reducible rfl)
              (try simp only [Act.put, lq1, lq2, lq3, lq4, lq5, lq6])
              refine wt (i := 17) (v := ?vg1q17x68) rfl ?hg1q17x68 ?rg1q17x68
              case hg1q17x68 => (intro w hSw; (try dsimp only at hSw); obtain ⟨z0, ⟨z1, z2⟩, ⟨z3, z4⟩, z5, z6⟩ := hSw; go_simp; try with_reducible rfl)
              (try simp only [Act.put, lq1, lq2, lq3, lq4, lq5, lq6])
              refine wpAnyH_done (by kernel_rfl) ?_ _
              go_wp2_with fail
              go_ret
              exact ⟨_, by rw [hres.out]; rfl, HNi.out, F.out.th⟩
            · rw [jnB_f hj] at HJn
              have hres := hidb (HFq.out he hj)
              clear HFq HF5 HF6 he hj
              refine wp_region_held_drew (S := (fun w' => w'.cell? ⟨Bi, k, none⟩ = some (.int .i64 (x1 : Int)) ∧ (w'.cell? ⟨XA, 0, none⟩ = some (.int .i64 P0.1) ∧ w'.cell? ⟨XA, 1, none⟩ = some (.int .i64 P0.2)) ∧ (w'.cell? ⟨XB, 0, none⟩ = some (.int .i64 P1.1) ∧ w'.cell? ⟨XB, 1, none⟩ = some (.int .i64 P1.2)) ∧ (w'.cell? ⟨XC, 0, none⟩ = some (.int .i64 P2.1) ∧ w'.cell? ⟨XC, 1, none⟩ = some (.int .i64 P2.2)))) (by kernel_rfl) ?_ (fun hHeld => ?_)
              · (try dsimp only); exact ⟨HNm.out _ _ (F.out.below (Gr.refl _).drew.out).th, (F.out.below (Gr.refl _).drew.out).a.c2, (F.out.below (Gr.refl _).drew.out).b.c2, (F.out.below (Gr.refl _).drew.out).c.c2⟩
              replace F := hidb (F.out.below (Gr.refl _).drew.out)
              clear HCl HCl2 HTn HTt
              refine wt (i := 0) (v := ?vg2q0x4) rfl ?hg2q0x4 ?rg2q0x4
              case hg2q0x4 => (intro w hSw; (try dsimp only at hSw); obtain ⟨z0, ⟨z1, z2⟩, ⟨z3, z4⟩, z5, z6⟩ := hSw; go_simp; try with_reducible rfl)
              (try simp only [Act.put, lq1, lq2, lq4, lq5, lq6])
              refine wt (i := 1) (v := ?vg2q1x7) rfl ?hg2q1x7 ?rg2q1x7
              case hg2q1x7 => (intro w hSw; (try dsimp only at hSw); obtain ⟨z0, ⟨z1, z2⟩, ⟨z3, z4⟩, z5, z6⟩ := hSw; go_simp; try with_reducible rfl)
              (try simp only [Act.put, lq1, lq2, lq3, lq4, lq5, lq6])
              refine wt (i := 2) (v := ?vg2q2x10) rfl ?hg2q2x10 ?rg2q2x10
              case hg2q2x10 => (intro w hSw; (try dsimp only at hSw); obtain ⟨z0, ⟨z1, z2⟩, ⟨z3, z4⟩, z5, z6⟩ := hSw; go_simp; try with_reducible rfl)
              (try simp only [Act.put, lq1, lq2, lq3, lq4, lq5, lq6])
              refine wt (i := 3) (v := ?vg2q3x13) rfl ?hg2q3x13 ?rg2q3x13
              case hg2q3x13 => (intro w hSw; (try dsimp only at hSw); obtain ⟨z0, ⟨z1, z2⟩, ⟨z3, z4⟩, z5, z6⟩ := hSw; go_simp; try with_reducible rfl)
              (try simp only [Act.put, lq1, lq2, lq3, lq4, lq5, lq6])
              refine wt (i := 4) (v := ?vg2q4x16) rfl ?hg2q4x16 ?rg2q4x16
              case hg2q4x16 => (intro w hSw; (try dsimp only at hSw); obtain ⟨z0, ⟨z1, z2⟩, ⟨z3, z4⟩, z5, z6⟩ := hSw; go_simp; try with_reducible rfl)
              (try simp only [Act.put, lq1, lq2, lq3, lq4, lq5, lq6])
              refine wt (i := 5) (v := ?vg2q5x19) rfl ?hg2q5x19 ?rg2q5x19
              case hg2q5x19 => (intro w hSw; (try dsimp only at hSw); obtain ⟨z0, ⟨z1, z2⟩, ⟨z3, z4⟩, z5, z6⟩ := hSw; go_simp; try with_reducible rfl)
              (try simp only [Act.put, lq1, lq2, lq3, lq4, lq5, lq6])
              refine wt (i := 6) (v := ?vg2q6x22) rfl ?hg2q6x22 ?rg2q6x22
              case hg2q6x22 => (intro w hSw; (try dsimp only at hSw); obtain ⟨z0, ⟨z1, z2⟩, ⟨z3, z4⟩, z5, z6⟩ := hSw; go_simp; try with_reducible rfl)
              (try simp only [Act.put, lq1, lq2, lq3, lq4, lq5, lq6])
              refine wt (i := 7) (v := ?vg2q7x25) rfl ?hg2q7x25 ?rg2q7x25
              case hg2q7x25 => (intro w hSw; (try dsimp only at hSw); obtain ⟨z0, ⟨z1, z2⟩, ⟨z3, z4⟩, z5, z6⟩ := hSw; go_simp; try with_reducible rfl)
              (try simp only [Act.put, lq1, lq2, lq3, lq4, lq5, lq6])
              refine wpAnyH_ready (rs := [8]) (by kernel_rfl) (by simp) ?_
              refine AllReadyH.cons rfl (fun K hK => ?_) AllReadyH.nil
              go_simp
              go_wp2_with (go_at_call 71; refine (HEm.out _ F.out.th).mono ?_; rintro e V3 ⟨v, rfl, hv, hvy, hT, hO⟩)
              refine hK.out _ _ ?_ (fun hHeld => ?_)
              · (try dsimp only); exact ⟨HNm.out _ _ (F.out.new hO hT).th, (F.out.new hO hT).a.c2, (F.out.new hO hT).b.c2, (F.out.new hO hT).c.c2⟩
              clear hK K
              replace F := hidb (F.out.new hO hT)
              have HNi := hidb (HNs.out v hv hvy)
              clear hv hvy hT hO
              refine wt (i := 9) (v := ?vg2q9x38) rfl ?hg2q9x38 ?rg2q9x38
              case hg2q9x38 => (intro w hSw; (try dsimp only at hSw); obtain ⟨z0, ⟨z1, z2⟩, ⟨z3, z4⟩, z5, z6⟩ := hSw; go_simp; try with_reducible rfl)
              (try simp only [Act.put, lq1, lq2, lq3, lq4, lq5, lq6])
              refine wt (i := 10) (v := ?vg2q10x41) rfl ?hg2q10x41 ?rg2q10x41
              case hg2q10x41 => (intro w hSw; (try dsimp only at hSw); obtain ⟨z0, ⟨z1, z2⟩, ⟨z3, z4⟩, z5, z6⟩ := hSw; go_simp; try with_reducible rfl)
              (try simp only [Act.put, lq1, lq2, lq3, lq4, lq5, lq6])
              refine wt (i := 11) (v := ?vg2q11x44) rfl ?hg2q11x44 ?rg2q11x44
              case hg2q11x44 => (intro w hSw; (try dsimp only at hSw); obtain ⟨z0, ⟨z1, z2⟩, ⟨z3, z4⟩, z5, z6⟩ := hSw; go_simp; try with_reducible rfl)
              (try simp only [Act.put, lq1, lq2, lq3, lq4, lq5, lq6])
              refine wt (i := 12) (v := ?vg2q12x47) rfl ?hg2q12x47 ?rg2q12x47
              case hg2q12x47 => (intro w hSw; (try dsimp only at hSw); obtain ⟨z0, ⟨z1, z2⟩, ⟨z3, z4⟩, z5, z6⟩ := hSw; go_simp; try with_reducible rfl)
              (try simp only [Act.put, lq1, lq2, lq3, lq4, lq5, lq6])
              refine wt (i := 13) (v := ?vg2q13x50) rfl ?hg2q13x50 ?rg2q13x50
              case hg2q13x50 => (intro w hSw; (try dsimp only at hSw); obtain ⟨z0, ⟨z1, z2⟩, ⟨z3, z4⟩, z5, z6⟩ := hSw; go_simp; try with_reducible rfl)
              (try simp only [Act.put, lq1, lq2, lq3, lq4, lq5, lq6])
              refine wpAnyH_ready (rs := [14]) (by kernel_rfl) (by simp) ?_
              refine AllReadyH.cons rfl (fun K hK => ?_) AllReadyH.nil
              go_simp
              go_wp2_with (go_at_call 72; refine (HJn.out _ _ F.out.th HNi.out).mono ?_; rintro e V4 ⟨rfl, hB⟩)
              refine hK.out _ _ ?_ (fun hHeld => ?_)
              · (try dsimp only); exact ⟨HNm.out _ _ (F.out.below hB.out).th, (F.out.below hB.out).a.c2, (F.out.below hB.out).b.c2, (F.out.below hB.out).c.c2⟩
              clear hK K
              replace F := hidb (F.out.below hB.out)
              clear hB
              refine wt (i := 15) (v := ?vg2q15x62) rfl ?hg2q15x62 ?rg2q15x62
              case hg2q15x62 => (intro w hSw; (try dsimp only at hSw); obtain ⟨z0, ⟨z1, z2⟩, ⟨z3, z4⟩, z5, z6⟩ := hSw; go_simp; try with_reducible rfl)
              (try simp only [Act.put, lq1, lq2, lq3, lq4, lq5, lq6])
              refine wt (i := 16) (v := ?vg2q16x65) rfl ?hg2q16x65 ?rg2q16x65
              case hg2q16x65 => (intro w hSw; (try dsimp only at hSw); obtain ⟨z0, ⟨z1, z2⟩, ⟨z3, z4⟩, z5, z6⟩ := hSw; go_simp; try with_reducible rfl)
              (try simp only [Act.put, lq1, lq2, lq3, lq4, lq5, lq6])
              refine wt (i := 17) (v := ?vg2q17x68) rfl ?hg2q17x68 ?rg2q17x68
              case hg2q17x68 => (intro w hSw; (try dsimp only at hSw); obtain ⟨z0, ⟨z1, z2⟩, ⟨z3, z4⟩, z5, z6⟩ := hSw; go_simp; try with_reducible rfl)
              (try simp only [Act.put, lq1, lq2, lq3, lq4, lq5, lq6])
              refine wpAnyH_done (by kernel_rfl) ?_ _
              go_wp2_with fail
              go_ret
              exact ⟨_, by rw [hres.out]; rfl, HNi.out, F.out.th⟩
          · rw [emB_f (by rw [hn]; exact he)] at HEm
            have hres := hidb (HF5.out he)
            clear HFq HF5 HF6 he
            refine wp_region_held_drew (S := (fun w' => w'.cell? ⟨Bi, k, none⟩ = some (.int .i64 (x1 : Int)) ∧ (w'.cell? ⟨XA, 0, none⟩ = some (.int .i64 P0.1) ∧ w'.cell? ⟨XA, 1, none⟩ = some (.int .i64 P0.2)) ∧ (w'.cell? ⟨XB, 0, none⟩ = some (.int .i64 P1.1) ∧ w'.cell? ⟨XB, 1, none⟩ = some (.int .i64 P1.2)) ∧ (w'.cell? ⟨XC, 0, none⟩ = some (.int .i64 P2.1) ∧ w'.cell? ⟨XC, 1, none⟩ = some (.int .i64 P2.2)))) (by kernel_rfl) ?_ (fun hHeld => ?_)
            · (try dsimp only); exact ⟨HNm.out _ _ (F.out.below (Gr.refl _).drew.out).th, (F.out.below (Gr.refl _).drew.out).a.c2, (F.out.below (Gr.refl _).drew.out).b.c2, (F.out.below (Gr.refl _).drew.out).c.c2⟩
            replace F := hidb (F.out.below (Gr.refl _).drew.out)
            clear HCl HCl2 HTn HTt
            refine wt (i := 0) (v := ?vg3q0x4) rfl ?hg3q0x4 ?rg3q0x4
            case hg3q0x4 => (intro w hSw; (try dsimp only at hSw); obtain ⟨z0, ⟨z1, z2⟩, ⟨z3, z4⟩, z5, z6⟩ := hSw; go_simp; try with_reducible rfl)
            (try simp only [Act.put, lq1, lq2, lq4, lq5, lq6])
            refine wt (i := 1) (v := ?vg3q1x7) rfl ?hg3q1x7 ?rg3q1x7
            case hg3q1x7 => (intro w hSw; (try dsimp only at hSw); obtain ⟨z0, ⟨z1, z2⟩, ⟨z3, z4⟩, z5, z6⟩ := hSw; go_simp; try with_reducible rfl)
            (try simp only [Act.put, lq1, lq2, lq3, lq4, lq5, lq6])
            refine wt (i := 2) (v := ?vg3q2x10) rfl ?hg3q2x10 ?rg3q2x10
            case hg3q2x10 => (intro w hSw; (try dsimp only at hSw); obtain ⟨z0, ⟨z1, z2⟩, ⟨z3, z4⟩, z5, z6⟩ := hSw; go_simp; try with_reducible rfl)
            (try simp only [Act.put, lq1, lq2, lq3, lq4, lq5, lq6])
            refine wt (i := 3) (v := ?vg3q3x13) rfl ?hg3q3x13 ?rg3q3x13
            case hg3q3x13 => (intro w hSw; (try dsimp only at hSw); obtain ⟨z0, ⟨z1, z2⟩, ⟨z3, z4⟩, z5, z6⟩ := hSw; go_simp; try with_reducible rfl)
            (try simp only [Act.put, lq1, lq2, lq3, lq4, lq5, lq6])
            refine wt (i := 4) (v := ?vg3q4x16) rfl ?hg3q4x16 ?rg3q4x16
            case hg3q4x16 => (intro w hSw; (try dsimp only at hSw); obtain ⟨z0, ⟨z1, z2⟩, ⟨z3, z4⟩, z5, z6⟩ := hSw; go_simp; try with_reducible rfl)
            (try simp only [Act.put, lq1, lq2, lq3, lq4, lq5, lq6])
            refine wt (i := 5) (v := ?vg3q5x19) rfl ?hg3q5x19 ?rg3q5x19
            case hg3q5x19 => (intro w hSw; (try dsimp only at hSw); obtain ⟨z0, ⟨z1, z2⟩, ⟨z3, z4⟩, z5, z6⟩ := hSw; go_simp; try with_reducible rfl)
            (try simp only [Act.put, lq1, lq2, lq3, lq4, lq5, lq6])
            refine wt (i := 6) (v := ?vg3q6x22) rfl ?hg3q6x22 ?rg3q6x22
            case hg3q6x22 => (intro w hSw; (try dsimp only at hSw); obtain ⟨z0, ⟨z1, z2⟩, ⟨z3, z4⟩, z5, z6⟩ := hSw; go_simp; try with_reducible rfl)
            (try simp only [Act.put, lq1, lq2, lq3, lq4, lq5, lq6])
            refine wt (i := 7) (v := ?vg3q7x25) rfl ?hg3q7x25 ?rg3q7x25
            case hg3q7x25 => (intro w hSw; (try dsimp only at hSw); obtain ⟨z0, ⟨z1, z2⟩, ⟨z3, z4⟩, z5, z6⟩ := hSw; go_simp; try with_reducible rfl)
            (try simp only [Act.put, lq1, lq2, lq3, lq4, lq5, lq6])
            refine wpAnyH_ready (rs := [8]) (by kernel_rfl) (by simp) ?_
            refine AllReadyH.cons rfl (fun K hK => ?_) AllReadyH.nil
            go_simp
            go_wp2_with (go_at_call 71; refine (HEm.out _ F.out.th).mono ?_; rintro e V5 ⟨v, rfl, hv, hvy, hT, hO⟩)
            refine hK.out _ _ ?_ (fun hHeld => ?_)
            · (try dsimp only); exact ⟨HNm.out _ _ (F.out.new hO hT).th, (F.out.new hO hT).a.c2, (F.out.new hO hT).b.c2, (F.out.new hO hT).c.c2⟩
            clear hK K
            replace F := hidb (F.out.new hO hT)
            have HNi := hidb (HNs.out v hv hvy)
            clear hv hvy hT hO
            refine wt (i := 9) (v := ?vg3q9x38) rfl ?hg3q9x38 ?rg3q9x38
            case hg3q9x38 => (intro w hSw; (try dsimp only at hSw); obtain ⟨z0, ⟨z1, z2⟩, ⟨z3, z4⟩, z5, z6⟩ := hSw; go_simp; try with_reducible rfl)
            (try simp only [Act.put, lq1, lq2, lq3, lq4, lq5, lq6])
            refine wu (i := 10) rfl ?_
            (try simp only [Act.put, lq1, lq2, lq3, lq4, lq5, lq6])
            refine wu (i := 11) rfl ?_
            (try simp only [Act.put, lq1, lq2, lq3, lq4, lq5, lq6])
            refine wu (i := 12) rfl ?_
            (try simp only [Act.put, lq1, lq2, lq3, lq4, lq5, lq6])
            refine wu (i := 13) rfl ?_
            (try simp only [Act.put, lq1, lq2, lq3, lq4, lq5, lq6])
            refine wu (i := 14) rfl ?_
            (try simp only [Act.put, lq1, lq2, lq3, lq4, lq5, lq6])
            refine wu (i := 15) rfl ?_
            (try simp only [Act.put, lq1, lq2, lq3, lq4, lq5, lq6])
            refine wt (i := 16) (v := ?vg3q16x53) rfl ?hg3q16x53 ?rg3q16x53
            case hg3q16x53 => (intro w hSw; (try dsimp only at hSw); obtain ⟨z0, ⟨z1, z2⟩, ⟨z3, z4⟩, z5, z6⟩ := hSw; go_simp; try with_reducible rfl)
            (try simp only [Act.put, lq1, lq2, lq3, lq4, lq5, lq6])
            refine wt (i := 17) (v := ?vg3q17x56) rfl ?hg3q17x56 ?rg3q17x56
            case hg3q17x56 => (intro w hSw; (try dsimp only at hSw); obtain ⟨z0, ⟨z1, z2⟩, ⟨z3, z4⟩, z5, z6⟩ := hSw; go_simp; try with_reducible rfl)
            (try simp only [Act.put, lq1, lq2, lq3, lq4, lq5, lq6])
            refine wpAnyH_done (by kernel_rfl) ?_ _
            go_wp2_with fail
            go_ret
            exact ⟨_, by rw [hres.out]; rfl, HNi.out, F.out.th⟩
      | false =>
        have HFq := hidb (fun z3 z4 => HF1.out (by omega) (fun y _ => by cases y) z3 z4)
        clear HF1 HF3 HF4
        go_upto_region 5 with (go_at_call 70; refine HCl2.out.mono ?_; rintro e w4 ⟨rfl, hB⟩; replace F := hidb (F.out.below hB.out); clear hB t0)
        by_cases he : ∀ y, y < n → okE S G P0 P1 P2 y
        · rw [emB_t (by rw [hn]; exact he)] at HEm
          by_cases hj : jnP (lsA S A) (P0, P2)
          · rw [jnB_t hj] at HJn
            have hres := hidb (HF6.out hj)
            clear HFq HF5 HF6 he hj
            refine wp_region_held_drew (S := (fun w' => w'.cell? ⟨Bi, k, none⟩ = some (.int .i64 (x1 : Int)) ∧ (w'.cell? ⟨XA, 0, none⟩ = some (.int .i64 P0.1) ∧ w'.cell? ⟨XA, 1, none⟩ = some (.int .i64 P0.2)) ∧ (w'.cell? ⟨XB, 0, none⟩ = some (.int .i64 P1.1) ∧ w'.cell? ⟨XB, 1, none⟩ = some (.int .i64 P1.2)) ∧ (w'.cell? ⟨XC, 0, none⟩ = some (.int .i64 P2.1) ∧ w'.cell? ⟨XC, 1, none⟩ = some (.int .i64 P2.2)))) (by kernel_rfl) ?_ (fun hHeld => ?_)
            · (try dsimp only); exact ⟨HNm.out _ _ (F.out.below (Gr.refl _).drew.out).th, (F.out.below (Gr.refl _).drew.out).a.c2, (F.out.below (Gr.refl _).drew.out).b.c2, (F.out.below (Gr.refl _).drew.out).c.c2⟩
            replace F := hidb (F.out.below (Gr.refl _).drew.out)
            clear HCl HCl2 HTn HTt
            refine wt (i := 0) (v := ?vg4q0x4) rfl ?hg4q0x4 ?rg4q0x4
            case hg4q0x4 => (intro w hSw; (try dsimp only at hSw); obtain ⟨z0, ⟨z1, z2⟩, ⟨z3, z4⟩, z5, z6⟩ := hSw; go_simp; try with_reducible rfl)
            (try simp only [Act.put, lq1, lq2, lq4, lq5, lq6])
            refine wt (i := 1) (v := ?vg4q1x7) rfl ?hg4q1x7 ?rg4q1x7
            case hg4q1x7 => (intro w hSw; (try dsimp only at hSw); obtain ⟨z0, ⟨z1, z2⟩, ⟨z3, z4⟩, z5, z6⟩ := hSw; go_simp; try with_reducible rfl)
            (try simp only [Act.put, lq1, lq2, lq3, lq4, lq5, lq6])
            refine wt (i := 2) (v := ?vg4q2x10) rfl ?hg4q2x10 ?rg4q2x10
            case hg4q2x10 => (intro w hSw; (try dsimp only at hSw); obtain ⟨z0, ⟨z1, z2⟩, ⟨z3, z4⟩, z5, z6⟩ := hSw; go_simp; try with_reducible rfl)
            (try simp only [Act.put, lq1, lq2, lq3, lq4, lq5, lq6])
            refine wt (i := 3) (v := ?vg4q3x13) rfl ?hg4q3x13 ?rg4q3x13
            case hg4q3x13 => (intro w hSw; (try dsimp only at hSw); obtain ⟨z0, ⟨z1, z2⟩, ⟨z3, z4⟩, z5, z6⟩ := hSw; go_simp; try with_reducible rfl)
            (try simp only [Act.put, lq1, lq2, lq3, lq4, lq5, lq6])
            refine wt (i := 4) (v := ?vg4q4x16) rfl ?hg4q4x16 ?rg4q4x16
            case hg4q4x16 => (intro w hSw; (try dsimp only at hSw); obtain ⟨z0, ⟨z1, z2⟩, ⟨z3, z4⟩, z5, z6⟩ := hSw; go_simp; try with_reducible rfl)
            (try simp only [Act.put, lq1, lq2, lq3, lq4, lq5, lq6])
            refine wt (i := 5) (v := ?vg4q5x19) rfl ?hg4q5x19 ?rg4q5x19
            case hg4q5x19 => (intro w hSw; (try dsimp only at hSw); obtain ⟨z0, ⟨z1, z2⟩, ⟨z3, z4⟩, z5, z6⟩ := hSw; go_simp; try with_reducible rfl)
            (try simp only [Act.put, lq1, lq2, lq3, lq4, lq5, lq6])
            refine wt (i := 6) (v := ?vg4q6x22) rfl ?hg4q6x22 ?rg4q6x22
            case hg4q6x22 => (intro w hSw; (try dsimp only at hSw); obtain ⟨z0, ⟨z1, z2⟩, ⟨z3, z4⟩, z5, z6⟩ := hSw; go_simp; try with_reducible rfl)
            (try simp only [Act.put, lq1, lq2, lq3, lq4, lq5, lq6])
            refine wt (i := 7) (v := ?vg4q7x25) rfl ?hg4q7x25 ?rg4q7x25
            case hg4q7x25 => (intro w hSw; (try dsimp only at hSw); obtain ⟨z0, ⟨z1, z2⟩, ⟨z3, z4⟩, z5, z6⟩ := hSw; go_simp; try with_reducible rfl)
            (try simp only [Act.put, lq1, lq2, lq3, lq4, lq5, lq6])
            refine wpAnyH_ready (rs := [8]) (by kernel_rfl) (by simp) ?_
            refine AllReadyH.cons rfl (fun K hK => ?_) AllReadyH.nil
            go_simp
            go_wp2_with (go_at_call 71; refine (HEm.out _ F.out.th).mono ?_; rintro e V6 ⟨v, rfl, hv, hvy, hT, hO⟩)
            refine hK.out _ _ ?_ (fun hHeld => ?_)
            · (try dsimp only); exact ⟨HNm.out _ _ (F.out.new hO hT).th, (F.out.new hO hT).a.c2, (F.out.new hO hT).b.c2, (F.out.new hO hT).c.c2⟩
            clear hK K
            replace F := hidb (F.out.new hO hT)
            have HNi := hidb (HNs.out v hv hvy)
            clear hv hvy hT hO
            refine wt (i := 9) (v := ?vg4q9x38) rfl ?hg4q9x38 ?rg4q9x38
            case hg4q9x38 => (intro w hSw; (try dsimp only at hSw); obtain ⟨z0, ⟨z1, z2⟩, ⟨z3, z4⟩, z5, z6⟩ := hSw; go_simp; try with_reducible rfl)
            (try simp only [Act.put, lq1, lq2, lq3, lq4, lq5, lq6])
            refine wt (i := 10) (v := ?vg4q10x41) rfl ?hg4q10x41 ?rg4q10x41
            case hg4q10x41 => (intro w hSw; (try dsimp only at hSw); obtain ⟨z0, ⟨z1, z2⟩, ⟨z3, z4⟩, z5, z6⟩ := hSw; go_simp; try with_reducible rfl)
            (try simp only [Act.put, lq1, lq2, lq3, lq4, lq5, lq6])
            refine wt (i := 11) (v := ?vg4q11x44) rfl ?hg4q11x44 ?rg4q11x44
            case hg4q11x44 => (intro w hSw; (try dsimp only at hSw); obtain ⟨z0, ⟨z1, z2⟩, ⟨z3, z4⟩, z5, z6⟩ := hSw; go_simp; try with_reducible rfl)
            (try simp only [Act.put, lq1, lq2, lq3, lq4, lq5, lq6])
            refine wt (i := 12) (v := ?vg4q12x47) rfl ?hg4q12x47 ?rg4q12x47
            case hg4q12x47 => (intro w hSw; (try dsimp only at hSw); obtain ⟨z0, ⟨z1, z2⟩, ⟨z3, z4⟩, z5, z6⟩ := hSw; go_simp; try with_reducible rfl)
            (try simp only [Act.put, lq1, lq2, lq3, lq4, lq5, lq6])
            refine wt (i := 13) (v := ?vg4q13x50) rfl ?hg4q13x50 ?rg4q13x50
            case hg4q13x50 => (intro w hSw; (try dsimp only at hSw); obtain ⟨z0, ⟨z1, z2⟩, ⟨z3, z4⟩, z5, z6⟩ := hSw; go_simp; try with_reducible rfl)
            (try simp only [Act.put, lq1, lq2, lq3, lq4, lq5, lq6])
            refine wpAnyH_ready (rs := [14]) (by kernel_rfl) (by simp) ?_
            refine AllReadyH.cons rfl (fun K hK => ?_) AllReadyH.nil
            go_simp
            go_wp2_with (go_at_call 72; refine (HJn.out _ _ F.out.th HNi.out).mono ?_; rintro e V7 ⟨rfl, hB⟩)
            refine hK.out _ _ ?_ (fun hHeld => ?_)
            · (try dsimp only); exact ⟨HNm.out _ _ (F.out.below hB.out).th, (F.out.below hB.out).a.c2, (F.out.below hB.out).b.c2, (F.out.below hB.out).c.c2⟩
            clear hK K
            replace F := hidb (F.out.below hB.out)
            clear hB
            refine wt (i := 15) (v := ?vg4q15x62) rfl ?hg4q15x62 ?rg4q15x62
            case hg4q15x62 => (intro w hSw; (try dsimp only at hSw); obtain ⟨z0, ⟨z1, z2⟩, ⟨z3, z4⟩, z5, z6⟩ := hSw; go_simp; try with_reducible rfl)
            (try simp only [Act.put, lq1, lq2, lq3, lq4, lq5, lq6])
            refine wt (i := 16) (v := ?vg4q16x65) rfl ?hg4q16x65 ?rg4q16x65
            case hg4q16x65 => (intro w hSw; (try dsimp only at hSw); obtain ⟨z0, ⟨z1, z2⟩, ⟨z3, z4⟩, z5, z6⟩ := hSw; go_simp; try with_reducible rfl)
            (try simp only [Act.put, lq1, lq2, lq3, lq4, lq5, lq6])
            refine wt (i := 17) (v := ?vg4q17x68) rfl ?hg4q17x68 ?rg4q17x68
            case hg4q17x68 => (intro w hSw; (try dsimp only at hSw); obtain ⟨z0, ⟨z1, z2⟩, ⟨z3, z4⟩, z5, z6⟩ := hSw; go_simp; try with_reducible rfl)
            (try simp only [Act.put, lq1, lq2, lq3, lq4, lq5, lq6])
            refine wpAnyH_done (by kernel_rfl) ?_ _
            go_wp2_with fail
            go_ret
            exact ⟨_, by rw [hres.out]; rfl, HNi.out, F.out.th⟩
          · rw [jnB_f hj] at HJn
            have hres := hidb (HFq.out he hj)
            clear HFq HF5 HF6 he hj
            refine wp_region_held_drew (S := (fun w' => w'.cell? ⟨Bi, k, none⟩ = some (.int .i64 (x1 : Int)) ∧ (w'.cell? ⟨XA, 0, none⟩ = some (.int .i64 P0.1) ∧ w'.cell? ⟨XA, 1, none⟩ = some (.int .i64 P0.2)) ∧ (w'.cell? ⟨XB, 0, none⟩ = some (.int .i64 P1.1) ∧ w'.cell? ⟨XB, 1, none⟩ = some (.int .i64 P1.2)) ∧ (w'.cell? ⟨XC, 0, none⟩ = some (.int .i64 P2.1) ∧ w'.cell? ⟨XC, 1, none⟩ = some (.int .i64 P2.2)))) (by kernel_rfl) ?_ (fun hHeld => ?_)
            · (try dsimp only); exact ⟨HNm.out _ _ (F.out.below (Gr.refl _).drew.out).th, (F.out.below (Gr.refl _).drew.out).a.c2, (F.out.below (Gr.refl _).drew.out).b.c2, (F.out.below (Gr.refl _).drew.out).c.c2⟩
            replace F := hidb (F.out.below (Gr.refl _).drew.out)
            clear HCl HCl2 HTn HTt
            refine wt (i := 0) (v := ?vg5q0x4) rfl ?hg5q0x4 ?rg5q0x4
            case hg5q0x4 => (intro w hSw; (try dsimp only at hSw); obtain ⟨z0, ⟨z1, z2⟩, ⟨z3, z4⟩, z5, z6⟩ := hSw; go_simp; try with_reducible rfl)
            (try simp only [Act.put, lq1, lq2, lq4, lq5, lq6])
            refine wt (i := 1) (v := ?vg5q1x7) rfl ?hg5q1x7 ?rg5q1x7
            case hg5q1x7 => (intro w hSw; (try dsimp only at hSw); obtain ⟨z0, ⟨z1, z2⟩, ⟨z3, z4⟩, z5, z6⟩ := hSw; go_simp; try with_reducible rfl)
            (try simp only [Act.put, lq1, lq2, lq3, lq4, lq5, lq6])
            refine wt (i := 2) (v := ?vg5q2x10) rfl ?hg5q2x10 ?rg5q2x10
            case hg5q2x10 => (intro w hSw; (try dsimp only at hSw); obtain ⟨z0, ⟨z1, z2⟩, ⟨z3, z4⟩, z5, z6⟩ := hSw; go_simp; try with_reducible rfl)
            (try simp only [Act.put, lq1, lq2, lq3, lq4, lq5, lq6])
            refine wt (i := 3) (v := ?vg5q3x13) rfl ?hg5q3x13 ?rg5q3x13
            case hg5q3x13 => (intro w hSw; (try dsimp only at hSw); obtain ⟨z0, ⟨z1, z2⟩, ⟨z3, z4⟩, z5, z6⟩ := hSw; go_simp; try with_reducible rfl)
            (try simp only [Act.put, lq1, lq2, lq3, lq4, lq5, lq6])
            refine wt (i := 4) (v := ?vg5q4x16) rfl ?hg5q4x16 ?rg5q4x16
            case hg5q4x16 => (intro w hSw; (try dsimp only at hSw); obtain ⟨z0, ⟨z1, z2⟩, ⟨z3, z4⟩, z5, z6⟩ := hSw; go_simp; try with_reducible rfl)
            (try simp only [Act.put, lq1, lq2, lq3, lq4, lq5, lq6])
            refine wt (i := 5) (v := ?vg5q5x19) rfl ?hg5q5x19 ?rg5q5x19
            case hg5q5x19 => (intro w hSw; (try dsimp only at hSw); obtain ⟨z0, ⟨z1, z2⟩, ⟨z3, z4⟩, z5, z6⟩ := hSw; go_simp; try with_reducible rfl)
            (try simp only [Act.put, lq1, lq2, lq3, lq4, lq5, lq6])
            refine wt (i := 6) (v := ?vg5q6x22) rfl ?hg5q6x22 ?rg5q6x22
            case hg5q6x22 => (intro w hSw; (try dsimp only at hSw); obtain ⟨z0, ⟨z1, z2⟩, ⟨z3, z4⟩, z5, z6⟩ := hSw; go_simp; try with_reducible rfl)
            (try simp only [Act.put, lq1, lq2, lq3, lq4, lq5, lq6])
            refine wt (i := 7) (v := ?vg5q7x25) rfl ?hg5q7x25 ?rg5q7x25
            case hg5q7x25 => (intro w hSw; (try dsimp only at hSw); obtain ⟨z0, ⟨z1, z2⟩, ⟨z3, z4⟩, z5, z6⟩ := hSw; go_simp; try with_reducible rfl)
            (try simp only [Act.put, lq1, lq2, lq3, lq4, lq5, lq6])
            refine wpAnyH_ready (rs := [8]) (by kernel_rfl) (by simp) ?_
            refine AllReadyH.cons rfl (fun K hK => ?_) AllReadyH.nil
            go_simp
            go_wp2_with (go_at_call 71; refine (HEm.out _ F.out.th).mono ?_; rintro e V8 ⟨v, rfl, hv, hvy, hT, hO⟩)
            refine hK.out _ _ ?_ (fun hHeld => ?_)
            · (try dsimp only); exact ⟨HNm.out _ _ (F.out.new hO hT).th, (F.out.new hO hT).a.c2, (F.out.new hO hT).b.c2, (F.out.new hO hT).c.c2⟩
            clear hK K
            replace F := hidb (F.out.new hO hT)
            have HNi := hidb (HNs.out v hv hvy)
            clear hv hvy hT hO
            refine wt (i := 9) (v := ?vg5q9x38) rfl ?hg5q9x38 ?rg5q9x38
            case hg5q9x38 => (intro w hSw; (try dsimp only at hSw); obtain ⟨z0, ⟨z1, z2⟩, ⟨z3, z4⟩, z5, z6⟩ := hSw; go_simp; try with_reducible rfl)
            (try simp only [Act.put, lq1, lq2, lq3, lq4, lq5, lq6])
            refine wt (i := 10) (v := ?vg5q10x41) rfl ?hg5q10x41 ?rg5q10x41
            case hg5q10x41 => (intro w hSw; (try dsimp only at hSw); obtain ⟨z0, ⟨z1, z2⟩, ⟨z3, z4⟩, z5, z6⟩ := hSw; go_simp; try with_reducible rfl)
            (try simp only [Act.put, lq1, lq2, lq3, lq4, lq5, lq6])
            refine wt (i := 11) (v := ?vg5q11x44) rfl ?hg5q11x44 ?rg5q11x44
            case hg5q11x44 => (intro w hSw; (try dsimp only at hSw); obtain ⟨z0, ⟨z1, z2⟩, ⟨z3, z4⟩, z5, z6⟩ := hSw; go_simp; try with_reducible rfl)
            (try simp only [Act.put, lq1, lq2, lq3, lq4, lq5, lq6])
            refine wt (i := 12) (v := ?vg5q12x47) rfl ?hg5q12x47 ?rg5q12x47
            case hg5q12x47 => (intro w hSw; (try dsimp only at hSw); obtain ⟨z0, ⟨z1, z2⟩, ⟨z3, z4⟩, z5, z6⟩ := hSw; go_simp; try with_reducible rfl)
            (try simp only [Act.put, lq1, lq2, lq3, lq4, lq5, lq6])
            refine wt (i := 13) (v := ?vg5q13x50) rfl ?hg5q13x50 ?rg5q13x50
            case hg5q13x50 => (intro w hSw; (try dsimp only at hSw); obtain ⟨z0, ⟨z1, z2⟩, ⟨z3, z4⟩, z5, z6⟩ := hSw; go_simp; try with_reducible rfl)
            (try simp only [Act.put, lq1, lq2, lq3, lq4, lq5, lq6])
            refine wpAnyH_ready (rs := [14]) (by kernel_rfl) (by simp) ?_
            refine AllReadyH.cons rfl (fun K hK => ?_) AllReadyH.nil
            go_simp
            go_wp2_with (go_at_call 72; refine (HJn.out _ _ F.out.th HNi.out).mono ?_; rintro e V9 ⟨rfl, hB⟩)
            refine hK.out _ _ ?_ (fun hHeld => ?_)
            · (try dsimp only); exact ⟨HNm.out _ _ (F.out.below hB.out).th, (F.out.below hB.out).a.c2, (F.out.below hB.out).b.c2, (F.out.below hB.out).c.c2⟩
            clear hK K
            replace F := hidb (F.out.below hB.out)
            clear hB
            refine wt (i := 15) (v := ?vg5q15x62) rfl ?hg5q15x62 ?rg5q15x62
            case hg5q15x62 => (intro w hSw; (try dsimp only at hSw); obtain ⟨z0, ⟨z1, z2⟩, ⟨z3, z4⟩, z5, z6⟩ := hSw; go_simp; try with_reducible rfl)
            (try simp only [Act.put, lq1, lq2, lq3, lq4, lq5, lq6])
            refine wt (i := 16) (v := ?vg5q16x65) rfl ?hg5q16x65 ?rg5q16x65
            case hg5q16x65 => (intro w hSw; (try dsimp only at hSw); obtain ⟨z0, ⟨z1, z2⟩, ⟨z3, z4⟩, z5, z6⟩ := hSw; go_simp; try with_reducible rfl)
            (try simp only [Act.put, lq1, lq2, lq3, lq4, lq5, lq6])
            refine wt (i := 17) (v := ?vg5q17x68) rfl ?hg5q17x68 ?rg5q17x68
            case hg5q17x68 => (intro w hSw; (try dsimp only at hSw); obtain ⟨z0, ⟨z1, z2⟩, ⟨z3, z4⟩, z5, z6⟩ := hSw; go_simp; try with_reducible rfl)
            (try simp only [Act.put, lq1, lq2, lq3, lq4, lq5, lq6])
            refine wpAnyH_done (by kernel_rfl) ?_ _
            go_wp2_with fail
            go_ret
            exact ⟨_, by rw [hres.out]; rfl, HNi.out, F.out.th⟩
        · rw [emB_f (by rw [hn]; exact he)] at HEm
          have hres := hidb (HF5.out he)
          clear HFq HF5 HF6 he
          refine wp_region_held_drew (S := (fun w' => w'.cell? ⟨Bi, k, none⟩ = some (.int .i64 (x1 : Int)) ∧ (w'.cell? ⟨XA, 0, none⟩ = some (.int .i64 P0.1) ∧ w'.cell? ⟨XA, 1, none⟩ = some (.int .i64 P0.2)) ∧ (w'.cell? ⟨XB, 0, none⟩ = some (.int .i64 P1.1) ∧ w'.cell? ⟨XB, 1, none⟩ = some (.int .i64 P1.2)) ∧ (w'.cell? ⟨XC, 0, none⟩ = some (.int .i64 P2.1) ∧ w'.cell? ⟨XC, 1, none⟩ = some (.int .i64 P2.2)))) (by kernel_rfl) ?_ (fun hHeld => ?_)
          · (try dsimp only); exact ⟨HNm.out _ _ (F.out.below (Gr.refl _).drew.out).th, (F.out.below (Gr.refl _).drew.out).a.c2, (F.out.below (Gr.refl _).drew.out).b.c2, (F.out.below (Gr.refl _).drew.out).c.c2⟩
          replace F := hidb (F.out.below (Gr.refl _).drew.out)
          clear HCl HCl2 HTn HTt
          refine wt (i := 0) (v := ?vg6q0x4) rfl ?hg6q0x4 ?rg6q0x4
          case hg6q0x4 => (intro w hSw; (try dsimp only at hSw); obtain ⟨z0, ⟨z1, z2⟩, ⟨z3, z4⟩, z5, z6⟩ := hSw; go_simp; try with_reducible rfl)
          (try simp only [Act.put, lq1, lq2, lq4, lq5, lq6])
          refine wt (i := 1) (v := ?vg6q1x7) rfl ?hg6q1x7 ?rg6q1x7
          case hg6q1x7 => (intro w hSw; (try dsimp only at hSw); obtain ⟨z0, ⟨z1, z2⟩, ⟨z3, z4⟩, z5, z6⟩ := hSw; go_simp; try with_reducible rfl)
          (try simp only [Act.put, lq1, lq2, lq3, lq4, lq5, lq6])
          refine wt (i := 2) (v := ?vg6q2x10) rfl ?hg6q2x10 ?rg6q2x10
          case hg6q2x10 => (intro w hSw; (try dsimp only at hSw); obtain ⟨z0, ⟨z1, z2⟩, ⟨z3, z4⟩, z5, z6⟩ := hSw; go_simp; try with_reducible rfl)
          (try simp only [Act.put, lq1, lq2, lq3, lq4, lq5, lq6])
          refine wt (i := 3) (v := ?vg6q3x13) rfl ?hg6q3x13 ?rg6q3x13
          case hg6q3x13 => (intro w hSw; (try dsimp only at hSw); obtain ⟨z0, ⟨z1, z2⟩, ⟨z3, z4⟩, z5, z6⟩ := hSw; go_simp; try with_reducible rfl)
          (try simp only [Act.put, lq1, lq2, lq3, lq4, lq5, lq6])
          refine wt (i := 4) (v := ?vg6q4x16) rfl ?hg6q4x16 ?rg6q4x16
          case hg6q4x16 => (intro w hSw; (try dsimp only at hSw); obtain ⟨z0, ⟨z1, z2⟩, ⟨z3, z4⟩, z5, z6⟩ := hSw; go_simp; try with_reducible rfl)
          (try simp only [Act.put, lq1, lq2, lq3, lq4, lq5, lq6])
          refine wt (i := 5) (v := ?vg6q5x19) rfl ?hg6q5x19 ?rg6q5x19
          case hg6q5x19 => (intro w hSw; (try dsimp only at hSw); obtain ⟨z0, ⟨z1, z2⟩, ⟨z3, z4⟩, z5, z6⟩ := hSw; go_simp; try with_reducible rfl)
          (try simp only [Act.put, lq1, lq2, lq3, lq4, lq5, lq6])
          refine wt (i := 6) (v := ?vg6q6x22) rfl ?hg6q6x22 ?rg6q6x22
          case hg6q6x22 => (intro w hSw; (try dsimp only at hSw); obtain ⟨z0, ⟨z1, z2⟩, ⟨z3, z4⟩, z5, z6⟩ := hSw; go_simp; try with_reducible rfl)
          (try simp only [Act.put, lq1, lq2, lq3, lq4, lq5, lq6])
          refine wt (i := 7) (v := ?vg6q7x25) rfl ?hg6q7x25 ?rg6q7x25
          case hg6q7x25 => (intro w hSw; (try dsimp only at hSw); obtain ⟨z0, ⟨z1, z2⟩, ⟨z3, z4⟩, z5, z6⟩ := hSw; go_simp; try with_reducible rfl)
          (try simp only [Act.put, lq1, lq2, lq3, lq4, lq5, lq6])
          refine wpAnyH_ready (rs := [8]) (by kernel_rfl) (by simp) ?_
          refine AllReadyH.cons rfl (fun K hK => ?_) AllReadyH.nil
          go_simp
          go_wp2_with (go_at_call 71; refine (HEm.out _ F.out.th).mono ?_; rintro e V10 ⟨v, rfl, hv, hvy, hT, hO⟩)
          refine hK.out _ _ ?_ (fun hHeld => ?_)
          · (try dsimp only); exact ⟨HNm.out _ _ (F.out.new hO hT).th, (F.out.new hO hT).a.c2, (F.out.new hO hT).b.c2, (F.out.new hO hT).c.c2⟩
          clear hK K
          replace F := hidb (F.out.new hO hT)
          have HNi := hidb (HNs.out v hv hvy)
          clear hv hvy hT hO
          refine wt (i := 9) (v := ?vg6q9x38) rfl ?hg6q9x38 ?rg6q9x38
          case hg6q9x38 => (intro w hSw; (try dsimp only at hSw); obtain ⟨z0, ⟨z1, z2⟩, ⟨z3, z4⟩, z5, z6⟩ := hSw; go_simp; try with_reducible rfl)
          (try simp only [Act.put, lq1, lq2, lq3, lq4, lq5, lq6])
          refine wu (i := 10) rfl ?_
          (try simp only [Act.put, lq1, lq2, lq3, lq4, lq5, lq6])
          refine wu (i := 11) rfl ?_
          (try simp only [Act.put, lq1, lq2, lq3, lq4, lq5, lq6])
          refine wu (i := 12) rfl ?_
          (try simp only [Act.put, lq1, lq2, lq3, lq4, lq5, lq6])
          refine wu (i := 13) rfl ?_
          (try simp only [Act.put, lq1, lq2, lq3, lq4, lq5, lq6])
          refine wu (i := 14) rfl ?_
          (try simp only [Act.put, lq1, lq2, lq3, lq4, lq5, lq6])
          refine wu (i := 15) rfl ?_
          (try simp only [Act.put, lq1, lq2, lq3, lq4, lq5, lq6])
          refine wt (i := 16) (v := ?vg6q16x53) rfl ?hg6q16x53 ?rg6q16x53
          case hg6q16x53 => (intro w hSw; (try dsimp only at hSw); obtain ⟨z0, ⟨z1, z2⟩, ⟨z3, z4⟩, z5, z6⟩ := hSw; go_simp; try with_reducible rfl)
          (try simp only [Act.put, lq1, lq2, lq3, lq4, lq5, lq6])
          refine wt (i := 17) (v := ?vg6q17x56) rfl ?hg6q17x56 ?rg6q17x56
          case hg6q17x56 => (intro w hSw; (try dsimp only at hSw); obtain ⟨z0, ⟨z1, z2⟩, ⟨z3, z4⟩, z5, z6⟩ := hSw; go_simp; try with_reducible rfl)
          (try simp only [Act.put, lq1, lq2, lq3, lq4, lq5, lq6])
          refine wpAnyH_done (by kernel_rfl) ?_ _
          go_wp2_with fail
          go_ret
          exact ⟨_, by rw [hres.out]; rfl, HNi.out, F.out.th⟩
end
end Go.Proofs.YtnadgoomkaldkaaDoor
