/-
  mercatorref5.Spare.
-/
import Derived.Test.YtnadgoomkaldkaaDoorQTk
import Derived.Test.YtnadgoomkaldkaaDoorQJ12
import Derived.Test.YtnadgoomkaldkaaDoorQJ11
import Derived.Test.YtnadgoomkaldkaaDoorQSfI
import Derived.Test.YtnadgoomkaldkaaDoorQJ10
namespace Go.Proofs.YtnadgoomkaldkaaDoor
open Go.RowKit
attribute [local go_sem ↓] Go.wp_at_zero Go.wp_at_succ

noncomputable def spB (most : Int) (Ls : List (List Sp)) (i k : Nat) : Bool := @decide (spP most Ls i k) (Classical.propDecidable _)
theorem spB_t {most : Int} {Ls : List (List Sp)} {i k : Nat} (h : spP most Ls i k) : spB most Ls i k = true := by unfold spB; exact @decide_eq_true _ (Classical.propDecidable _) h
theorem spB_f {most : Int} {Ls : List (List Sp)} {i k : Nat} (h : ¬ spP most Ls i k) : spB most Ls i k = false := by unfold spB; exact @decide_eq_false _ (Classical.propDecidable _) h
/-- A point that is not in the triangle, or is a corner of it. -/
def okX (a b c x : Sp) : Prop := ¬ x = a → ¬ x = b → ¬ x = c → ¬ rfP a b c x
theorem rm_okX {Ls : List (List Sp)} {a b c : Sp} : rmP Ls a b c ↔ ∀ j, j < Ls.length → ∀ m, m < (lx Ls j).length → okX a b c (sx (lx Ls j) m) := Iff.rfl
set_option maxRecDepth 4000 in
set_option maxHeartbeats 32000000 in
theorem spare_any {pb po : Nat} {ad : Option Addr} {b o cap i k : Nat} {Ls : List (List Sp)} {most : Int} (hm0 : 0 ≤ most) (hm1 : most ≤ 9223372036854775807) (hc : mcd Ls = 0) (hi : i < Ls.length) (h0 : 0 < k) (hk : k + 1 < (lx Ls i).length) (w : World) (hp : w.cell? ⟨pb, po, none⟩ = some (.slice ad Ls.length cap) ∧ pb < w.heap.size) (h : LLd w ad b o cap Ls) : Calls Tryd.prog 36 #[.pointer (some ⟨pb, po, none⟩), .int .i64 (i : Int), .int .i64 (k : Int), .int .i64 most] w fun e w' => e = .returned (.bool (spB most Ls i k)) ∧ Gr w w' := by
  have hok := mcd_okL hc
  obtain ⟨m1, m2, -, -, -⟩ := mcd_ok hc
  have hll : ∀ j, j < Ls.length → (lx Ls j).length ≤ 5000 := fun j hj => by have := len_le hj; omega
  have hpG : ∀ W, Gr w W → W.cell? ⟨pb, po, none⟩ = some (.slice ad Ls.length cap) ∧ pb < W.heap.size := fun W hG => ⟨(hG.out.cell (p := ⟨pb, po, none⟩) hp.2).trans hp.1, Nat.lt_of_lt_of_le hp.2 hG.out.size⟩
  have HP := hidb (fun W (hG : Gr w W) => (hpG W hG).1)
  have HWo := hidb (fun W (hG : Gr w W) => without_any (k := k) hi (by omega) (by omega) hll W (hpG W hG) (h.below hG.out))
  have HMe := hidb (fun pb po W ad' b' cap' (hp' : W.cell? ⟨pb, po, none⟩ = some (.slice ad' (woM Ls i k).length cap') ∧ pb < W.heap.size) (hL : LLd W ad' b' 0 cap' (woM Ls i k)) => mapError_any (by rw [wo_len]; omega) (by have := (wo_sub Ls i k).length_le; omega) W hp' hL.ll)
  rw [wo_len] at HMe
  have HLd := hidb h
  have HLb := hidb hll
  have HNb := hidb m1
  obtain ⟨⟨a1, b1, o1, c1, y0, y1, hS⟩, yb⟩ := h.row i hi
  have hka : okS (sx (lx Ls i) (k - 1)) := hok i hi _ (by omega)
  have hkb : okS (sx (lx Ls i) k) := hok i hi _ (by omega)
  have hkc : okS (sx (lx Ls i) (k + 1)) := hok i hi _ (by omega)
  have HT := hidb (fun W => turnOf_any hka hkb hkc W)
  have HX := hidb (fun j (hj : j < Ls.length) m (hm : m < (lx Ls j).length) W => inTriangle_any hka hkb hkc (hok j hj m hm) W)
  have htb := tn_bd hka hkb hkc
  have HSp : Hid ((spP most Ls i k → spB most Ls i k = true) ∧ (¬ spP most Ls i k → spB most Ls i k = false)) := ⟨spB_t, spB_f⟩
  unfold spP cl4 at HSp
  rw [rm_okX] at HSp
  have r0 := (hS.row (k - 1) (by omega)).1
  have r1 := (hS.row k (by omega)).1
  have r2 := (hS.row (k + 1) (by omega)).1
  have rz := (hS.row 0 (by omega)).1
  have rl := (hS.row ((lx Ls i).length - 1) (by omega)).1
  have rb := (hS.row 0 (by omega)).2
  have i0 := hS.ix (k - 1) (by omega)
  have i1 := hS.ix k (by omega)
  have i2 := hS.ix (k + 1) (by omega)
  have iz := hS.ix 0 (by omega)
  have il := hS.ix ((lx Ls i).length - 1) (by omega)
  rw [Nat.zero_mul, Nat.add_zero] at rz iz
  push_cast at iz
  have ixI := h.ix i hi
  have hLk := hll i hi
  have em : IntKind.i64.wrap ((k : Int) - 1) = ((k - 1 : Nat) : Int) := by rw [show (k : Int) - 1 = ((k - 1 : Nat) : Int) by omega]; exact wr_in (by omega) (by omega)
  have en : IntKind.i64.wrap ((k : Int) + 1) = ((k + 1 : Nat) : Int) := by rw [show (k : Int) + 1 = ((k + 1 : Nat) : Int) by omega]; exact wr_in (by omega) (by omega)
  have ev : IntKind.i64.wrap (((lx Ls i).length : Int) - 1) = (((lx Ls i).length - 1 : Nat) : Int) := by rw [show ((lx Ls i).length : Int) - 1 = (((lx Ls i).length - 1 : Nat) : Int) by omega]; exact wr_in (by omega) (by omega)
  have eg : IntKind.i64.wrap (-most) = -most := wr_in (by omega) (by omega)
  obtain ⟨A0, hA0⟩ : ∃ z, z = sx (lx Ls i) (k - 1) := ⟨_, rfl⟩
  obtain ⟨A1, hA1⟩ : ∃ z, z = sx (lx Ls i) k := ⟨_, rfl⟩
  obtain ⟨A2, hA2⟩ : ∃ z, z = sx (lx Ls i) (k + 1) := ⟨_, rfl⟩
  obtain ⟨Az, hAz⟩ : ∃ z, z = sx (lx Ls i) 0 := ⟨_, rfl⟩
  obtain ⟨L, hL⟩ : ∃ z, z = (lx Ls i).length := ⟨_, rfl⟩
  rw [← hL] at rl il ev y0 i0 i1 i2 iz HSp
  obtain ⟨Al, hAl⟩ : ∃ z, z = sx (lx Ls i) (L - 1) := ⟨_, rfl⟩
  rw [← hA0, ← hA1, ← hA2] at HT HX HSp htb
  rw [← hAz, ← hAl] at HSp
  rw [← hA0] at r0
  rw [← hA1] at r1
  rw [← hA2] at r2
  rw [← hAz] at rz
  rw [← hAl] at rl
  have HC : Hid (∀ W, Gr w W → (W.cell? ⟨b1, o1 + (k - 1) * 2, none⟩ = some (.int .i64 A0.1) ∧ W.cell? ⟨b1, o1 + (k - 1) * 2 + 1, none⟩ = some (.int .i64 A0.2)) ∧ (W.cell? ⟨b1, o1 + k * 2, none⟩ = some (.int .i64 A1.1) ∧ W.cell? ⟨b1, o1 + k * 2 + 1, none⟩ = some (.int .i64 A1.2)) ∧ (W.cell? ⟨b1, o1 + (k + 1) * 2, none⟩ = some (.int .i64 A2.1) ∧ W.cell? ⟨b1, o1 + (k + 1) * 2 + 1, none⟩ = some (.int .i64 A2.2))) := fun W hG => by
    have c : ∀ j x, w.cell? ⟨b1, j, none⟩ = some x → W.cell? ⟨b1, j, none⟩ = some x := fun j x e => (hG.out.cell (p := ⟨b1, j, none⟩) rb).trans e
    exact ⟨⟨c _ _ r0.1, c _ _ r0.2⟩, ⟨c _ _ r1.1, c _ _ r1.2⟩, c _ _ r2.1, c _ _ r2.2⟩
  have HD : Hid (∀ W, Gr w W → (W.cell? ⟨b1, o1, none⟩ = some (.int .i64 Az.1) ∧ W.cell? ⟨b1, o1 + 1, none⟩ = some (.int .i64 Az.2)) ∧ (W.cell? ⟨b1, o1 + (L - 1) * 2, none⟩ = some (.int .i64 Al.1) ∧ W.cell? ⟨b1, o1 + (L - 1) * 2 + 1, none⟩ = some (.int .i64 Al.2))) := fun W hG => by
    have c : ∀ j x, w.cell? ⟨b1, j, none⟩ = some x → W.cell? ⟨b1, j, none⟩ = some x := fun j x e => (hG.out.cell (p := ⟨b1, j, none⟩) rb).trans e
    exact ⟨⟨c _ _ rz.1, c _ _ rz.2⟩, c _ _ rl.1, c _ _ rl.2⟩
  have HA : Hid (∀ W, Gr w W → W.cell? ⟨b, o + i, none⟩ = some (.slice a1 L c1)) := fun W hG => (hG.out.cell (p := ⟨b, o + i, none⟩) yb).trans y0
  obtain ⟨N, hNn⟩ : ∃ N, N = Ls.length := ⟨_, rfl⟩
  have HN := hidb hNn
  rw [← hNn] at HP HMe HWo HSp ixI
  generalize hk0 : k - 1 = k0 at *
  generalize hk2 : k + 1 = k2 at *
  generalize hl1 : L - 1 = l1 at *
  generalize hu0 : o1 + k0 * 2 = u0 at *
  generalize hu1 : o1 + k * 2 = u1 at *
  generalize hu2 : o1 + k2 * 2 = u2 at *
  generalize hul : o1 + l1 * 2 = ul at *
  generalize tn A0 A1 A2 = tv at *
  have HG := hidb (Gr.refl w)
  have g0 := fun x => sp_eq x A0
  have g1 := fun x => sp_eq x A1
  have g2 := fun x => sp_eq x A2
  have gz := sp_eq Az Al
  have HGs : Hid ((∀ x w, (binOp .eql 52 (sv x) (sv A0)).run Tryd.prog w = .ok (.bool (decide (x = A0))) w) ∧ (∀ x w, (binOp .eql 52 (sv x) (sv A1)).run Tryd.prog w = .ok (.bool (decide (x = A1))) w) ∧ (∀ x w, (binOp .eql 52 (sv x) (sv A2)).run Tryd.prog w = .ok (.bool (decide (x = A2))) w)) := ⟨g0, g1, g2⟩
  clear hok hll hpG hka hkb hkc r0 r1 r2 rz rl rb y0 y1 yb hS h hp hNn hi hk h0 hc m1 m2 hA0 hA1 hA2 hAz hAl hL hk0 hk2 hl1 hu0 hu1 hu2 hul g0 g1 g2
  by_cases q1 : most < tv
  · obtain hres := HSp.out.2 (fun z => by omega)
    rw [hres]
    clear HSp hres
    go_enter Tryd.func36, Tryd.ntmps36
    have cP := HP.out _ HG.out
    have cA := HA.out _ HG.out
    go_upto_region 2 with fail
    clear cP cA
    refine wp_region_held_drew (S := (fun w' => (w'.cell? ⟨b1, u0, none⟩ = some (.int .i64 A0.1) ∧ w'.cell? ⟨b1, u0 + 1, none⟩ = some (.int .i64 A0.2)) ∧ (w'.cell? ⟨b1, u1, none⟩ = some (.int .i64 A1.1) ∧ w'.cell? ⟨b1, u1 + 1, none⟩ = some (.int .i64 A1.2)) ∧ (w'.cell? ⟨b1, u2, none⟩ = some (.int .i64 A2.1) ∧ w'.cell? ⟨b1, u2 + 1, none⟩ = some (.int .i64 A2.2)))) (by kernel_rfl) ?_ (fun hHeld => ?_)
    · (try dsimp only); exact HC.out _ HG.out.drew
    replace HG := hidb HG.out.drew
    generalize w.drew = V0 at *
    refine wt (i := 0) (v := ?va1q0x4) rfl ?ha1q0x4 ?ra1q0x4
    case ha1q0x4 => (intro w hSw; (try dsimp only at hSw); obtain ⟨⟨z0, z1⟩, ⟨z2, z3⟩, z4, z5⟩ := hSw; go_simp; try with_reducible rfl)
    (try simp only [Act.put, lq1, lq2, lq4, lq5, lq6])
    refine wt (i := 1) (v := ?va1q1x7) rfl ?ha1q1x7 ?ra1q1x7
    case ha1q1x7 => (intro w hSw; (try dsimp only at hSw); obtain ⟨⟨z0, z1⟩, ⟨z2, z3⟩, z4, z5⟩ := hSw; go_simp; try with_reducible rfl)
    (try simp only [Act.put, lq1, lq2, lq3, lq4, lq5, lq6])
    refine wt (i := 2) (v := ?va1q2x10) rfl ?ha1q2x10 ?ra1q2x10
    case ha1q2x10 => (intro w hSw; (try dsimp only at hSw); obtain ⟨⟨z0, z1⟩, ⟨z2, z3⟩, z4, z5⟩ := hSw; go_simp; try with_reducible rfl)
    (try simp only [Act.put, lq1, lq2, lq3, lq4, lq5, lq6])
    refine wt (i := 3) (v := ?va1q3x13) rfl ?ha1q3x13 ?ra1q3x13
    case ha1q3x13 => (intro w hSw; (try dsimp only at hSw); obtain ⟨⟨z0, z1⟩, ⟨z2, z3⟩, z4, z5⟩ := hSw; go_simp; try with_reducible rfl)
    (try simp only [Act.put, lq1, lq2, lq3, lq4, lq5, lq6])
    refine wt (i := 4) (v := ?va1q4x16) rfl ?ha1q4x16 ?ra1q4x16
    case ha1q4x16 => (intro w hSw; (try dsimp only at hSw); obtain ⟨⟨z0, z1⟩, ⟨z2, z3⟩, z4, z5⟩ := hSw; go_simp; try with_reducible rfl)
    (try simp only [Act.put, lq1, lq2, lq3, lq4, lq5, lq6])
    refine wt (i := 5) (v := ?va1q5x19) rfl ?ha1q5x19 ?ra1q5x19
    case ha1q5x19 => (intro w hSw; (try dsimp only at hSw); obtain ⟨⟨z0, z1⟩, ⟨z2, z3⟩, z4, z5⟩ := hSw; go_simp; try with_reducible rfl)
    (try simp only [Act.put, lq1, lq2, lq3, lq4, lq5, lq6])
    refine wt (i := 6) (v := ?va1q6x22) rfl ?ha1q6x22 ?ra1q6x22
    case ha1q6x22 => (intro w hSw; (try dsimp only at hSw); obtain ⟨⟨z0, z1⟩, ⟨z2, z3⟩, z4, z5⟩ := hSw; go_simp; try with_reducible rfl)
    (try simp only [Act.put, lq1, lq2, lq3, lq4, lq5, lq6])
    refine wt (i := 7) (v := ?va1q7x25) rfl ?ha1q7x25 ?ra1q7x25
    case ha1q7x25 => (intro w hSw; (try dsimp only at hSw); obtain ⟨⟨z0, z1⟩, ⟨z2, z3⟩, z4, z5⟩ := hSw; go_simp; try with_reducible rfl)
    (try simp only [Act.put, lq1, lq2, lq3, lq4, lq5, lq6])
    refine wt (i := 8) (v := ?va1q8x28) rfl ?ha1q8x28 ?ra1q8x28
    case ha1q8x28 => (intro w hSw; (try dsimp only at hSw); obtain ⟨⟨z0, z1⟩, ⟨z2, z3⟩, z4, z5⟩ := hSw; go_simp; try with_reducible rfl)
    (try simp only [Act.put, lq1, lq2, lq3, lq4, lq5, lq6])
    refine wt (i := 9) (v := ?va1q9x31) rfl ?ha1q9x31 ?ra1q9x31
    case ha1q9x31 => (intro w hSw; (try dsimp only at hSw); obtain ⟨⟨z0, z1⟩, ⟨z2, z3⟩, z4, z5⟩ := hSw; go_simp; try with_reducible rfl)
    (try simp only [Act.put, lq1, lq2, lq3, lq4, lq5, lq6])
    refine wt (i := 10) (v := ?va1q10x34) rfl ?ha1q10x34 ?ra1q10x34
    case ha1q10x34 => (intro w hSw; (try dsimp only at hSw); obtain ⟨⟨z0, z1⟩, ⟨z2, z3⟩, z4, z5⟩ := hSw; go_simp; try with_reducible rfl)
    (try simp only [Act.put, lq1, lq2, lq3, lq4, lq5, lq6])
    refine wt (i := 11) (v := ?va1q11x37) rfl ?ha1q11x37 ?ra1q11x37
    case ha1q11x37 => (intro w hSw; (try dsimp only at hSw); obtain ⟨⟨z0, z1⟩, ⟨z2, z3⟩, z4, z5⟩ := hSw; go_simp; try with_reducible rfl)
    (try simp only [Act.put, lq1, lq2, lq3, lq4, lq5, lq6])
    refine wt (i := 12) (v := ?va1q12x40) rfl ?ha1q12x40 ?ra1q12x40
    case ha1q12x40 => (intro w hSw; (try dsimp only at hSw); obtain ⟨⟨z0, z1⟩, ⟨z2, z3⟩, z4, z5⟩ := hSw; go_simp; try with_reducible rfl)
    (try simp only [Act.put, lq1, lq2, lq3, lq4, lq5, lq6])
    refine wt (i := 13) (v := ?va1q13x43) rfl ?ha1q13x43 ?ra1q13x43
    case ha1q13x43 => (intro w hSw; (try dsimp only at hSw); obtain ⟨⟨z0, z1⟩, ⟨z2, z3⟩, z4, z5⟩ := hSw; go_simp; try with_reducible rfl)
    (try simp only [Act.put, lq1, lq2, lq3, lq4, lq5, lq6])
    refine wpAnyH_ready (rs := [14]) (by kernel_rfl) (by simp) ?_
    refine AllReadyH.cons rfl (fun K hK => ?_) AllReadyH.nil
    go_simp
    go_wp2_with (go_at_call 32; refine (HT.out _).mono ?_; rintro e V1 ⟨rfl, hB⟩)
    refine hK.out _ _ ?_ (fun hHeld => ?_)
    · (try dsimp only); exact HC.out _ (Gr.step HG.out hB.out)
    clear hK K
    replace HG := hidb (Gr.step HG.out hB.out)
    clear hB
    refine wt (i := 15) (v := ?va1q15x55) rfl ?ha1q15x55 ?ra1q15x55
    case ha1q15x55 => (intro w hSw; (try dsimp only at hSw); obtain ⟨⟨z0, z1⟩, ⟨z2, z3⟩, z4, z5⟩ := hSw; go_simp; try with_reducible rfl)
    (try simp only [Act.put, lq1, lq2, lq3, lq4, lq5, lq6])
    refine wpAnyH_done (by kernel_rfl) ?_ _
    go_wp2
    go_ret
    exact ⟨rfl, HG.out⟩
  · by_cases q2 : tv < -most
    · obtain hres := HSp.out.2 (fun z => by omega)
      rw [hres]
      clear HSp hres
      go_enter Tryd.func36, Tryd.ntmps36
      have cP := HP.out _ HG.out
      have cA := HA.out _ HG.out
      go_upto_region 2 with fail
      clear cP cA
      refine wp_region_held_drew (S := (fun w' => (w'.cell? ⟨b1, u0, none⟩ = some (.int .i64 A0.1) ∧ w'.cell? ⟨b1, u0 + 1, none⟩ = some (.int .i64 A0.2)) ∧ (w'.cell? ⟨b1, u1, none⟩ = some (.int .i64 A1.1) ∧ w'.cell? ⟨b1, u1 + 1, none⟩ = some (.int .i64 A1.2)) ∧ (w'.cell? ⟨b1, u2, none⟩ = some (.int .i64 A2.1) ∧ w'.cell? ⟨b1, u2 + 1, none⟩ = some (.int .i64 A2.2)))) (by kernel_rfl) ?_ (fun hHeld => ?_)
      · (try dsimp only); exact HC.out _ HG.out.drew
      replace HG := hidb HG.out.drew
      generalize w.drew = V0 at *
      refine wt (i := 0) (v := ?va2q0x4) rfl ?ha2q0x4 ?ra2q0x4
      case ha2q0x4 => (intro w hSw; (try dsimp only at hSw); obtain ⟨⟨z0, z1⟩, ⟨z2, z3⟩, z4, z5⟩ := hSw; go_simp; try with_reducible rfl)
      (try simp only [Act.put, lq1, lq2, lq4, lq5, lq6])
      refine wt (i := 1) (v := ?va2q1x7) rfl ?ha2q1x7 ?ra2q1x7
      case ha2q1x7 => (intro w hSw; (try dsimp only at hSw); obtain ⟨⟨z0, z1⟩, ⟨z2, z3⟩, z4, z5⟩ := hSw; go_simp; try with_reducible rfl)
      (try simp only [Act.put, lq1, lq2, lq3, lq4, lq5, lq6])
      refine wt (i := 2) (v := ?va2q2x10) rfl ?ha2q2x10 ?ra2q2x10
      case ha2q2x10 => (intro w hSw; (try dsimp only at hSw); obtain ⟨⟨z0, z1⟩, ⟨z2, z3⟩, z4, z5⟩ := hSw; go_simp; try with_reducible rfl)
      (try simp only [Act.put, lq1, lq2, lq3, lq4, lq5, lq6])
      refine wt (i := 3) (v := ?va2q3x13) rfl ?ha2q3x13 ?ra2q3x13
      case ha2q3x13 => (intro w hSw; (try dsimp only at hSw); obtain ⟨⟨z0, z1⟩, ⟨z2, z3⟩, z4, z5⟩ := hSw; go_simp; try with_reducible rfl)
      (try simp only [Act.put, lq1, lq2, lq3, lq4, lq5, lq6])
      refine wt (i := 4) (v := ?va2q4x16) rfl ?ha2q4x16 ?ra2q4x16
      case ha2q4x16 => (intro w hSw; (try dsimp only at hSw); obtain ⟨⟨z0, z1⟩, ⟨z2, z3⟩, z4, z5⟩ := hSw; go_simp; try with_reducible rfl)
      (try simp only [Act.put, lq1, lq2, lq3, lq4, lq5, lq6])
      refine wt (i := 5) (v := ?va2q5x19) rfl ?ha2q5x19 ?ra2q5x19
      case ha2q5x19 => (intro w hSw; (try dsimp only at hSw); obtain ⟨⟨z0, z1⟩, ⟨z2, z3⟩, z4, z5⟩ := hSw; go_simp; try with_reducible rfl)
      (try simp only [Act.put, lq1, lq2, lq3, lq4, lq5, lq6])
      refine wt (i := 6) (v := ?va2q6x22) rfl ?ha2q6x22 ?ra2q6x22
      case ha2q6x22 => (intro w hSw; (try dsimp only at hSw); obtain ⟨⟨z0, z1⟩, ⟨z2, z3⟩, z4, z5⟩ := hSw; go_simp; try with_reducible rfl)
      (try simp only [Act.put, lq1, lq2, lq3, lq4, lq5, lq6])
      refine wt (i := 7) (v := ?va2q7x25) rfl ?ha2q7x25 ?ra2q7x25
      case ha2q7x25 => (intro w hSw; (try dsimp only at hSw); obtain ⟨⟨z0, z1⟩, ⟨z2, z3⟩, z4, z5⟩ := hSw; go_simp; try with_reducible rfl)
      (try simp only [Act.put, lq1, lq2, lq3, lq4, lq5, lq6])
      refine wt (i := 8) (v := ?va2q8x28) rfl ?ha2q8x28 ?ra2q8x28
      case ha2q8x28 => (intro w hSw; (try dsimp only at hSw); obtain ⟨⟨z0, z1⟩, ⟨z2, z3⟩, z4, z5⟩ := hSw; go_simp; try with_reducible rfl)
      (try simp only [Act.put, lq1, lq2, lq3, lq4, lq5, lq6])
      refine wt (i := 9) (v := ?va2q9x31) rfl ?ha2q9x31 ?ra2q9x31
      case ha2q9x31 => (intro w hSw; (try dsimp only at hSw); obtain ⟨⟨z0, z1⟩, ⟨z2, z3⟩, z4, z5⟩ := hSw; go_simp; try with_reducible rfl)
      (try simp only [Act.put, lq1, lq2, lq3, lq4, lq5, lq6])
      refine wt (i := 10) (v := ?va2q10x34) rfl ?ha2q10x34 ?ra2q10x34
      case ha2q10x34 => (intro w hSw; (try dsimp only at hSw); obtain ⟨⟨z0, z1⟩, ⟨z2, z3⟩, z4, z5⟩ := hSw; go_simp; try with_reducible rfl)
      (try simp only [Act.put, lq1, lq2, lq3, lq4, lq5, lq6])
      refine wt (i := 11) (v := ?va2q11x37) rfl ?ha2q11x37 ?ra2q11x37
      case ha2q11x37 => (intro w hSw; (try dsimp only at hSw); obtain ⟨⟨z0, z1⟩, ⟨z2, z3⟩, z4, z5⟩ := hSw; go_simp; try with_reducible rfl)
      (try simp only [Act.put, lq1, lq2, lq3, lq4, lq5, lq6])
      refine wt (i := 12) (v := ?va2q12x40) rfl ?ha2q12x40 ?ra2q12x40
      case ha2q12x40 => (intro w hSw; (try dsimp only at hSw); obtain ⟨⟨z0, z1⟩, ⟨z2, z3⟩, z4, z5⟩ := hSw; go_simp; try with_reducible rfl)
      (try simp only [Act.put, lq1, lq2, lq3, lq4, lq5, lq6])
      refine wt (i := 13) (v := ?va2q13x43) rfl ?ha2q13x43 ?ra2q13x43
      case ha2q13x43 => (intro w hSw; (try dsimp only at hSw); obtain ⟨⟨z0, z1⟩, ⟨z2, z3⟩, z4, z5⟩ := hSw; go_simp; try with_reducible rfl)
      (try simp only [Act.put, lq1, lq2, lq3, lq4, lq5, lq6])
      refine wpAnyH_ready (rs := [14]) (by kernel_rfl) (by simp) ?_
      refine AllReadyH.cons rfl (fun K hK => ?_) AllReadyH.nil
      go_simp
      go_wp2_with (go_at_call 32; refine (HT.out _).mono ?_; rintro e V2 ⟨rfl, hB⟩)
      refine hK.out _ _ ?_ (fun hHeld => ?_)
      · (try dsimp only); exact HC.out _ (Gr.step HG.out hB.out)
      clear hK K
      replace HG := hidb (Gr.step HG.out hB.out)
      clear hB
      refine wt (i := 15) (v := ?va2q15x55) rfl ?ha2q15x55 ?ra2q15x55
      case ha2q15x55 => (intro w hSw; (try dsimp only at hSw); obtain ⟨⟨z0, z1⟩, ⟨z2, z3⟩, z4, z5⟩ := hSw; go_simp; try with_reducible rfl)
      (try simp only [Act.put, lq1, lq2, lq3, lq4, lq5, lq6])
      refine wpAnyH_done (by kernel_rfl) ?_ _
      go_wp2
      go_ret
      exact ⟨rfl, HG.out⟩
    · by_cases q3 : Az = Al
      · rw [decide_eq_true q3] at gz
        by_cases q4 : L = 4
        · obtain hres := HSp.out.2 (fun z => z.2.1 ⟨q3, q4⟩)
          have q5 : ((L : Int) == 4) = true := by rw [q4]; rfl
          rw [hres]
          clear HSp hres q4
          go_enter Tryd.func36, Tryd.ntmps36
          have cP := HP.out _ HG.out
          have cA := HA.out _ HG.out
          go_upto_region 2 with fail
          clear cP cA
          refine wp_region_held_drew (S := (fun w' => (w'.cell? ⟨b1, u0, none⟩ = some (.int .i64 A0.1) ∧ w'.cell? ⟨b1, u0 + 1, none⟩ = some (.int .i64 A0.2)) ∧ (w'.cell? ⟨b1, u1, none⟩ = some (.int .i64 A1.1) ∧ w'.cell? ⟨b1, u1 + 1, none⟩ = some (.int .i64 A1.2)) ∧ (w'.cell? ⟨b1, u2, none⟩ = some (.int .i64 A2.1) ∧ w'.cell? ⟨b1, u2 + 1, none⟩ = some (.int .i64 A2.2)))) (by kernel_rfl) ?_ (fun hHeld => ?_)
          · (try dsimp only); exact HC.out _ HG.out.drew
          replace HG := hidb HG.out.drew
          generalize w.drew = V0 at *
          refine wt (i := 0) (v := ?va3q0x4) rfl ?ha3q0x4 ?ra3q0x4
          case ha3q0x4 => (intro w hSw; (try dsimp only at hSw); obtain ⟨⟨z0, z1⟩, ⟨z2, z3⟩, z4, z5⟩ := hSw; go_simp; try with_reducible rfl)
          (try simp only [Act.put, lq1, lq2, lq4, lq5, lq6])
          refine wt (i := 1) (v := ?va3q1x7) rfl ?ha3q1x7 ?ra3q1x7
          case ha3q1x7 => (intro w hSw; (try dsimp only at hSw); obtain ⟨⟨z0, z1⟩, ⟨z2, z3⟩, z4, z5⟩ := hSw; go_simp; try with_reducible rfl)
          (try simp only [Act.put, lq1, lq2, lq3, lq4, lq5, lq6])
          refine wt (i := 2) (v := ?va3q2x10) rfl ?ha3q2x10 ?ra3q2x10
          case ha3q2x10 => (intro w hSw; (try dsimp only at hSw); obtain ⟨⟨z0, z1⟩, ⟨z2, z3⟩, z4, z5⟩ := hSw; go_simp; try with_reducible rfl)
          (try simp only [Act.put, lq1, lq2, lq3, lq4, lq5, lq6])
          refine wt (i := 3) (v := ?va3q3x13) rfl ?ha3q3x13 ?ra3q3x13
          case ha3q3x13 => (intro w hSw; (try dsimp only at hSw); obtain ⟨⟨z0, z1⟩, ⟨z2, z3⟩, z4, z5⟩ := hSw; go_simp; try with_reducible rfl)
          (try simp only [Act.put, lq1, lq2, lq3, lq4, lq5, lq6])
          refine wt (i := 4) (v := ?va3q4x16) rfl ?ha3q4x16 ?ra3q4x16
          case ha3q4x16 => (intro w hSw; (try dsimp only at hSw); obtain ⟨⟨z0, z1⟩, ⟨z2, z3⟩, z4, z5⟩ := hSw; go_simp; try with_reducible rfl)
          (try simp only [Act.put, lq1, lq2, lq3, lq4, lq5, lq6])
          refine wt (i := 5) (v := ?va3q5x19) rfl ?ha3q5x19 ?ra3q5x19
          case ha3q5x19 => (intro w hSw; (try dsimp only at hSw); obtain ⟨⟨z0, z1⟩, ⟨z2, z3⟩, z4, z5⟩ := hSw; go_simp; try with_reducible rfl)
          (try simp only [Act.put, lq1, lq2, lq3, lq4, lq5, lq6])
          refine wt (i := 6) (v := ?va3q6x22) rfl ?ha3q6x22 ?ra3q6x22
          case ha3q6x22 => (intro w hSw; (try dsimp only at hSw); obtain ⟨⟨z0, z1⟩, ⟨z2, z3⟩, z4, z5⟩ := hSw; go_simp; try with_reducible rfl)
          (try simp only [Act.put, lq1, lq2, lq3, lq4, lq5, lq6])
          refine wt (i := 7) (v := ?va3q7x25) rfl ?ha3q7x25 ?ra3q7x25
          case ha3q7x25 => (intro w hSw; (try dsimp only at hSw); obtain ⟨⟨z0, z1⟩, ⟨z2, z3⟩, z4, z5⟩ := hSw; go_simp; try with_reducible rfl)
          (try simp only [Act.put, lq1, lq2, lq3, lq4, lq5, lq6])
          refine wt (i := 8) (v := ?va3q8x28) rfl ?ha3q8x28 ?ra3q8x28
          case ha3q8x28 => (intro w hSw; (try dsimp only at hSw); obtain ⟨⟨z0, z1⟩, ⟨z2, z3⟩, z4, z5⟩ := hSw; go_simp; try with_reducible rfl)
          (try simp only [Act.put, lq1, lq2, lq3, lq4, lq5, lq6])
          refine wt (i := 9) (v := ?va3q9x31) rfl ?ha3q9x31 ?ra3q9x31
          case ha3q9x31 => (intro w hSw; (try dsimp only at hSw); obtain ⟨⟨z0, z1⟩, ⟨z2, z3⟩, z4, z5⟩ := hSw; go_simp; try with_reducible rfl)
          (try simp only [Act.put, lq1, lq2, lq3, lq4, lq5, lq6])
          refine wt (i := 10) (v := ?va3q10x34) rfl ?ha3q10x34 ?ra3q10x34
          case ha3q10x34 => (intro w hSw; (try dsimp only at hSw); obtain ⟨⟨z0, z1⟩, ⟨z2, z3⟩, z4, z5⟩ := hSw; go_simp; try with_reducible rfl)
          (try simp only [Act.put, lq1, lq2, lq3, lq4, lq5, lq6])
          refine wt (i := 11) (v := ?va3q11x37) rfl ?ha3q11x37 ?ra3q11x37
          case ha3q11x37 => (intro w hSw; (try dsimp only at hSw); obtain ⟨⟨z0, z1⟩, ⟨z2, z3⟩, z4, z5⟩ := hSw; go_simp; try with_reducible rfl)
          (try simp only [Act.put, lq1, lq2, lq3, lq4, lq5, lq6])
          refine wt (i := 12) (v := ?va3q12x40) rfl ?ha3q12x40 ?ra3q12x40
          case ha3q12x40 => (intro w hSw; (try dsimp only at hSw); obtain ⟨⟨z0, z1⟩, ⟨z2, z3⟩, z4, z5⟩ := hSw; go_simp; try with_reducible rfl)
          (try simp only [Act.put, lq1, lq2, lq3, lq4, lq5, lq6])
          refine wt (i := 13) (v := ?va3q13x43) rfl ?ha3q13x43 ?ra3q13x43
          case ha3q13x43 => (intro w hSw; (try dsimp only at hSw); obtain ⟨⟨z0, z1⟩, ⟨z2, z3⟩, z4, z5⟩ := hSw; go_simp; try with_reducible rfl)
          (try simp only [Act.put, lq1, lq2, lq3, lq4, lq5, lq6])
          refine wpAnyH_ready (rs := [14]) (by kernel_rfl) (by simp) ?_
          refine AllReadyH.cons rfl (fun K hK => ?_) AllReadyH.nil
          go_simp
          go_wp2_with (go_at_call 32; refine (HT.out _).mono ?_; rintro e V3 ⟨rfl, hB⟩)
          refine hK.out _ _ ?_ (fun hHeld => ?_)
          · (try dsimp only); exact HC.out _ (Gr.step HG.out hB.out)
          clear hK K
          replace HG := hidb (Gr.step HG.out hB.out)
          clear hB
          refine wt (i := 15) (v := ?va3q15x55) rfl ?ha3q15x55 ?ra3q15x55
          case ha3q15x55 => (intro w hSw; (try dsimp only at hSw); obtain ⟨⟨z0, z1⟩, ⟨z2, z3⟩, z4, z5⟩ := hSw; go_simp; try with_reducible rfl)
          (try simp only [Act.put, lq1, lq2, lq3, lq4, lq5, lq6])
          refine wpAnyH_done (by kernel_rfl) ?_ _
          go_upto_region 5 with fail
          refine wp_region_held_drew (S := (fun w' => (w'.cell? ⟨b1, o1, none⟩ = some (.int .i64 Az.1) ∧ w'.cell? ⟨b1, o1 + 1, none⟩ = some (.int .i64 Az.2)) ∧ (w'.cell? ⟨b1, ul, none⟩ = some (.int .i64 Al.1) ∧ w'.cell? ⟨b1, ul + 1, none⟩ = some (.int .i64 Al.2)))) (by kernel_rfl) ?_ (fun hHeld => ?_)
          · (try dsimp only); exact HD.out _ HG.out.drew
          replace HG := hidb HG.out.drew
          refine wt (i := 0) (v := ?vb6q0x3) rfl ?hb6q0x3 ?rb6q0x3
          case hb6q0x3 => (intro w hSw; (try dsimp only at hSw); obtain ⟨⟨z0, z1⟩, z2, z3⟩ := hSw; go_simp; try with_reducible rfl)
          (try simp only [Act.put, lq1, lq2, lq4, lq5, lq6])
          refine wt (i := 1) (v := ?vb6q1x6) rfl ?hb6q1x6 ?rb6q1x6
          case hb6q1x6 => (intro w hSw; (try dsimp only at hSw); obtain ⟨⟨z0, z1⟩, z2, z3⟩ := hSw; go_simp; try with_reducible rfl)
          (try simp only [Act.put, lq1, lq2, lq3, lq4, lq5, lq6])
          refine wt (i := 2) (v := ?vb6q2x9) rfl ?hb6q2x9 ?rb6q2x9
          case hb6q2x9 => (intro w hSw; (try dsimp only at hSw); obtain ⟨⟨z0, z1⟩, z2, z3⟩ := hSw; go_simp; try with_reducible rfl)
          (try simp only [Act.put, lq1, lq2, lq3, lq4, lq5, lq6])
          refine wt (i := 3) (v := ?vb6q3x12) rfl ?hb6q3x12 ?rb6q3x12
          case hb6q3x12 => (intro w hSw; (try dsimp only at hSw); obtain ⟨⟨z0, z1⟩, z2, z3⟩ := hSw; go_simp; try with_reducible rfl)
          (try simp only [Act.put, lq1, lq2, lq3, lq4, lq5, lq6])
          refine wt (i := 4) (v := ?vb6q4x15) rfl ?hb6q4x15 ?rb6q4x15
          case hb6q4x15 => (intro w hSw; (try dsimp only at hSw); obtain ⟨⟨z0, z1⟩, z2, z3⟩ := hSw; go_simp; try with_reducible rfl)
          (try simp only [Act.put, lq1, lq2, lq3, lq4, lq5, lq6])
          refine wt (i := 5) (v := ?vb6q5x18) rfl ?hb6q5x18 ?rb6q5x18
          case hb6q5x18 => (intro w hSw; (try dsimp only at hSw); obtain ⟨⟨z0, z1⟩, z2, z3⟩ := hSw; go_simp; try with_reducible rfl)
          (try simp only [Act.put, lq1, lq2, lq3, lq4, lq5, lq6])
          refine wt (i := 6) (v := ?vb6q6x21) rfl ?hb6q6x21 ?rb6q6x21
          case hb6q6x21 => (intro w hSw; (try dsimp only at hSw); obtain ⟨⟨z0, z1⟩, z2, z3⟩ := hSw; go_simp; try with_reducible rfl)
          (try simp only [Act.put, lq1, lq2, lq3, lq4, lq5, lq6])
          refine wt (i := 7) (v := ?vb6q7x24) rfl ?hb6q7x24 ?rb6q7x24
          case hb6q7x24 => (intro w hSw; (try dsimp only at hSw); obtain ⟨⟨z0, z1⟩, z2, z3⟩ := hSw; go_simp; try with_reducible rfl)
          (try simp only [Act.put, lq1, lq2, lq3, lq4, lq5, lq6])
          refine wt (i := 8) (v := ?vb6q8x27) rfl ?hb6q8x27 ?rb6q8x27
          case hb6q8x27 => (intro w hSw; (try dsimp only at hSw); obtain ⟨⟨z0, z1⟩, z2, z3⟩ := hSw; go_simp; try with_reducible rfl)
          (try simp only [Act.put, lq1, lq2, lq3, lq4, lq5, lq6])
          refine wt (i := 9) (v := ?vb6q9x30) rfl ?hb6q9x30 ?rb6q9x30
          case hb6q9x30 => (intro w hSw; (try dsimp only at hSw); obtain ⟨⟨z0, z1⟩, z2, z3⟩ := hSw; go_simp; try with_reducible rfl)
          (try simp only [Act.put, lq1, lq2, lq3, lq4, lq5, lq6])
          refine wt (i := 10) (v := ?vb6q10x33) rfl ?hb6q10x33 ?rb6q10x33
          case hb6q10x33 => (intro w hSw; (try dsimp only at hSw); obtain ⟨⟨z0, z1⟩, z2, z3⟩ := hSw; go_simp; try with_reducible rfl)
          (try simp only [Act.put, lq1, lq2, lq3, lq4, lq5, lq6])
          refine wt (i := 11) (v := ?vb6q11x36) rfl ?hb6q11x36 ?rb6q11x36
          case hb6q11x36 => (intro w hSw; (try dsimp only at hSw); obtain ⟨⟨z0, z1⟩, z2, z3⟩ := hSw; go_simp; try with_reducible rfl)
          (try simp only [Act.put, lq1, lq2, lq3, lq4, lq5, lq6])
          refine wt (i := 12) (v := ?vb6q12x39) rfl ?hb6q12x39 ?rb6q12x39
          case hb6q12x39 => (intro w hSw; (try dsimp only at hSw); obtain ⟨⟨z0, z1⟩, z2, z3⟩ := hSw; go_simp; try with_reducible rfl)
          (try simp only [Act.put, lq1, lq2, lq3, lq4, lq5, lq6])
          refine wt (i := 13) (v := ?vb6q13x42) rfl ?hb6q13x42 ?rb6q13x42
          case hb6q13x42 => (intro w hSw; (try dsimp only at hSw); obtain ⟨⟨z0, z1⟩, z2, z3⟩ := hSw; go_simp; try with_reducible rfl)
          (try simp only [Act.put, lq1, lq2, lq3, lq4, lq5, lq6])
          refine wt (i := 14) (v := ?vb6q14x45) rfl ?hb6q14x45 ?rb6q14x45
          case hb6q14x45 => (intro w hSw; (try dsimp only at hSw); obtain ⟨⟨z0, z1⟩, z2, z3⟩ := hSw; go_simp; try with_reducible rfl)
          (try simp only [Act.put, lq1, lq2, lq3, lq4, lq5, lq6])
          refine wpAnyH_done (by kernel_rfl) ?_ _
          go_wp2
          go_ret
          exact ⟨rfl, HG.out⟩
        · have HSq : Hid (((∀ j, j < N → ∀ m, m < (lx Ls j).length → okX A0 A1 A2 (sx (lx Ls j) m)) ∧ mcd (woM Ls i k) = 0 → spB most Ls i k = true) ∧ (¬ ((∀ j, j < N → ∀ m, m < (lx Ls j).length → okX A0 A1 A2 (sx (lx Ls j) m)) ∧ mcd (woM Ls i k) = 0) → spB most Ls i k = false)) :=
            ⟨fun z => HSp.out.1 ⟨by omega, fun y => q4 y.2, z⟩, fun z => HSp.out.2 (fun y => z y.2.2)⟩
          have q5 : ((L : Int) == 4) = false := by simp; omega
          clear HSp q4
          go_enter Tryd.func36, Tryd.ntmps36
          have cP := HP.out _ HG.out
          have cA := HA.out _ HG.out
          go_upto_region 2 with fail
          clear cP cA
          refine wp_region_held_drew (S := (fun w' => (w'.cell? ⟨b1, u0, none⟩ = some (.int .i64 A0.1) ∧ w'.cell? ⟨b1, u0 + 1, none⟩ = some (.int .i64 A0.2)) ∧ (w'.cell? ⟨b1, u1, none⟩ = some (.int .i64 A1.1) ∧ w'.cell? ⟨b1, u1 + 1, none⟩ = some (.int .i64 A1.2)) ∧ (w'.cell? ⟨b1, u2, none⟩ = some (.int .i64 A2.1) ∧ w'.cell? ⟨b1, u2 + 1, none⟩ = some (.int .i64 A2.2)))) (by kernel_rfl) ?_ (fun hHeld => ?_)
          · (try dsimp only); exact HC.out _ HG.out.drew
          replace HG := hidb HG.out.drew
          generalize w.drew = V0 at *
          refine wt (i := 0) (v := ?va4q0x4) rfl ?ha4q0x4 ?ra4q0x4
          case ha4q0x4 => (intro w hSw; (try dsimp only at hSw); obtain ⟨⟨z0, z1⟩, ⟨z2, z3⟩, z4, z5⟩ := hSw; go_simp; try with_reducible rfl)
          (try simp only [Act.put, lq1, lq2, lq4, lq5, lq6])
          refine wt (i := 1) (v := ?va4q1x7) rfl ?ha4q1x7 ?ra4q1x7
          case ha4q1x7 => (intro w hSw; (try dsimp only at hSw); obtain ⟨⟨z0, z1⟩, ⟨z2, z3⟩, z4, z5⟩ := hSw; go_simp; try with_reducible rfl)
          (try simp only [Act.put, lq1, lq2, lq3, lq4, lq5, lq6])
          refine wt (i := 2) (v := ?va4q2x10) rfl ?ha4q2x10 ?ra4q2x10
          case ha4q2x10 => (intro w hSw; (try dsimp only at hSw); obtain ⟨⟨z0, z1⟩, ⟨z2, z3⟩, z4, z5⟩ := hSw; go_simp; try with_reducible rfl)
          (try simp only [Act.put, lq1, lq2, lq3, lq4, lq5, lq6])
          refine wt (i := 3) (v := ?va4q3x13) rfl ?ha4q3x13 ?ra4q3x13
          case ha4q3x13 => (intro w hSw; (try dsimp only at hSw); obtain ⟨⟨z0, z1⟩, ⟨z2, z3⟩, z4, z5⟩ := hSw; go_simp; try with_reducible rfl)
          (try simp only [Act.put, lq1, lq2, lq3, lq4, lq5, lq6])
          refine wt (i := 4) (v := ?va4q4x16) rfl ?ha4q4x16 ?ra4q4x16
          case ha4q4x16 => (intro w hSw; (try dsimp only at hSw); obtain ⟨⟨z0, z1⟩, ⟨z2, z3⟩, z4, z5⟩ := hSw; go_simp; try with_reducible rfl)
          (try simp only [Act.put, lq1, lq2, lq3, lq4, lq5, lq6])
          refine wt (i := 5) (v := ?va4q5x19) rfl ?ha4q5x19 ?ra4q5x19
          case ha4q5x19 => (intro w hSw; (try dsimp only at hSw); obtain ⟨⟨z0, z1⟩, ⟨z2, z3⟩, z4, z5⟩ := hSw; go_simp; try with_reducible rfl)
          (try simp only [Act.put, lq1, lq2, lq3, lq4, lq5, lq6])
          refine wt (i := 6) (v := ?va4q6x22) rfl ?ha4q6x22 ?ra4q6x22
          case ha4q6x22 => (intro w hSw; (try dsimp only at hSw); obtain ⟨⟨z0, z1⟩, ⟨z2, z3⟩, z4, z5⟩ := hSw; go_simp; try with_reducible rfl)
          (try simp only [Act.put, lq1, lq2, lq3, lq4, lq5, lq6])
          refine wt (i := 7) (v := ?va4q7x25) rfl ?ha4q7x25 ?ra4q7x25
          case ha4q7x25 => (intro w hSw; (try dsimp only at hSw); obtain ⟨⟨z0, z1⟩, ⟨z2, z3⟩, z4, z5⟩ := hSw; go_simp; try with_reducible rfl)
          (try simp only [Act.put, lq1, lq2, lq3, lq4, lq5, lq6])
          refine wt (i := 8) (v := ?va4q8x28) rfl ?ha4q8x28 ?ra4q8x28
          case ha4q8x28 => (intro w hSw; (try dsimp only at hSw); obtain ⟨⟨z0, z1⟩, ⟨z2, z3⟩, z4, z5⟩ := hSw; go_simp; try with_reducible rfl)
          (try simp only [Act.put, lq1, lq2, lq3, lq4, lq5, lq6])
          refine wt (i := 9) (v := ?va4q9x31) rfl ?ha4q9x31 ?ra4q9x31
          case ha4q9x31 => (intro w hSw; (try dsimp only at hSw); obtain ⟨⟨z0, z1⟩, ⟨z2, z3⟩, z4, z5⟩ := hSw; go_simp; try with_reducible rfl)
          (try simp only [Act.put, lq1, lq2, lq3, lq4, lq5, lq6])
          refine wt (i := 10) (v := ?va4q10x34) rfl ?ha4q10x34 ?ra4q10x34
          case ha4q10x34 => (intro w hSw; (try dsimp only at hSw); obtain ⟨⟨z0, z1⟩, ⟨z2, z3⟩, z4, z5⟩ := hSw; go_simp; try with_reducible rfl)
          (try simp only [Act.put, lq1, lq2, lq3, lq4, lq5, lq6])
          refine wt (i := 11) (v := ?va4q11x37) rfl ?ha4q11x37 ?ra4q11x37
          case ha4q11x37 => (intro w hSw; (try dsimp only at hSw); obtain ⟨⟨z0, z1⟩, ⟨z2, z3⟩, z4, z5⟩ := hSw; go_simp; try with_reducible rfl)
          (try simp only [Act.put, lq1, lq2, lq3, lq4, lq5, lq6])
          refine wt (i := 12) (v := ?va4q12x40) rfl ?ha4q12x40 ?ra4q12x40
          case ha4q12x40 => (intro w hSw; (try dsimp only at hSw); obtain ⟨⟨z0, z1⟩, ⟨z2, z3⟩, z4, z5⟩ := hSw; go_simp; try with_reducible rfl)
          (try simp only [Act.put, lq1, lq2, lq3, lq4, lq5, lq6])
          refine wt (i := 13) (v := ?va4q13x43) rfl ?ha4q13x43 ?ra4q13x43
          case ha4q13x43 => (intro w hSw; (try dsimp only at hSw); obtain ⟨⟨z0, z1⟩, ⟨z2, z3⟩, z4, z5⟩ := hSw; go_simp; try with_reducible rfl)
          (try simp only [Act.put, lq1, lq2, lq3, lq4, lq5, lq6])
          refine wpAnyH_ready (rs := [14]) (by kernel_rfl) (by simp) ?_
          refine AllReadyH.cons rfl (fun K hK => ?_) AllReadyH.nil
          go_simp
          go_wp2_with (go_at_call 32; refine (HT.out _).mono ?_; rintro e V4 ⟨rfl, hB⟩)
          refine hK.out _ _ ?_ (fun hHeld => ?_)
          · (try dsimp only); exact HC.out _ (Gr.step HG.out hB.out)
          clear hK K
          replace HG := hidb (Gr.step HG.out hB.out)
          clear hB
          refine wt (i := 15) (v := ?va4q15x55) rfl ?ha4q15x55 ?ra4q15x55
          case ha4q15x55 => (intro w hSw; (try dsimp only at hSw); obtain ⟨⟨z0, z1⟩, ⟨z2, z3⟩, z4, z5⟩ := hSw; go_simp; try with_reducible rfl)
          (try simp only [Act.put, lq1, lq2, lq3, lq4, lq5, lq6])
          refine wpAnyH_done (by kernel_rfl) ?_ _
          go_upto_region 5 with fail
          refine wp_region_held_drew (S := (fun w' => (w'.cell? ⟨b1, o1, none⟩ = some (.int .i64 Az.1) ∧ w'.cell? ⟨b1, o1 + 1, none⟩ = some (.int .i64 Az.2)) ∧ (w'.cell? ⟨b1, ul, none⟩ = some (.int .i64 Al.1) ∧ w'.cell? ⟨b1, ul + 1, none⟩ = some (.int .i64 Al.2)))) (by kernel_rfl) ?_ (fun hHeld => ?_)
          · (try dsimp only); exact HD.out _ HG.out.drew
          replace HG := hidb HG.out.drew
          refine wt (i := 0) (v := ?vb7q0x3) rfl ?hb7q0x3 ?rb7q0x3
          case hb7q0x3 => (intro w hSw; (try dsimp only at hSw); obtain ⟨⟨z0, z1⟩, z2, z3⟩ := hSw; go_simp; try with_reducible rfl)
          (try simp only [Act.put, lq1, lq2, lq4, lq5, lq6])
          refine wt (i := 1) (v := ?vb7q1x6) rfl ?hb7q1x6 ?rb7q1x6
          case hb7q1x6 => (intro w hSw; (try dsimp only at hSw); obtain ⟨⟨z0, z1⟩, z2, z3⟩ := hSw; go_simp; try with_reducible rfl)
          (try simp only [Act.put, lq1, lq2, lq3, lq4, lq5, lq6])
          refine wt (i := 2) (v := ?vb7q2x9) rfl ?hb7q2x9 ?rb7q2x9
          case hb7q2x9 => (intro w hSw; (try dsimp only at hSw); obtain ⟨⟨z0, z1⟩, z2, z3⟩ := hSw; go_simp; try with_reducible rfl)
          (try simp only [Act.put, lq1, lq2, lq3, lq4, lq5, lq6])
          refine wt (i := 3) (v := ?vb7q3x12) rfl ?hb7q3x12 ?rb7q3x12
          case hb7q3x12 => (intro w hSw; (try dsimp only at hSw); obtain ⟨⟨z0, z1⟩, z2, z3⟩ := hSw; go_simp; try with_reducible rfl)
          (try simp only [Act.put, lq1, lq2, lq3, lq4, lq5, lq6])
          refine wt (i := 4) (v := ?vb7q4x15) rfl ?hb7q4x15 ?rb7q4x15
          case hb7q4x15 => (intro w hSw; (try dsimp only at hSw); obtain ⟨⟨z0, z1⟩, z2, z3⟩ := hSw; go_simp; try with_reducible rfl)
          (try simp only [Act.put, lq1, lq2, lq3, lq4, lq5, lq6])
          refine wt (i := 5) (v := ?vb7q5x18) rfl ?hb7q5x18 ?rb7q5x18
          case hb7q5x18 => (intro w hSw; (try dsimp only at hSw); obtain ⟨⟨z0, z1⟩, z2, z3⟩ := hSw; go_simp; try with_reducible rfl)
          (try simp only [Act.put, lq1, lq2, lq3, lq4, lq5, lq6])
          refine wt (i := 6) (v := ?vb7q6x21) rfl ?hb7q6x21 ?rb7q6x21
          case hb7q6x21 => (intro w hSw; (try dsimp only at hSw); obtain ⟨⟨z0, z1⟩, z2, z3⟩ := hSw; go_simp; try with_reducible rfl)
          (try simp only [Act.put, lq1, lq2, lq3, lq4, lq5, lq6])
          refine wt (i := 7) (v := ?vb7q7x24) rfl ?hb7q7x24 ?rb7q7x24
          case hb7q7x24 => (intro w hSw; (try dsimp only at hSw); obtain ⟨⟨z0, z1⟩, z2, z3⟩ := hSw; go_simp; try with_reducible rfl)
          (try simp only [Act.put, lq1, lq2, lq3, lq4, lq5, lq6])
          refine wt (i := 8) (v := ?vb7q8x27) rfl ?hb7q8x27 ?rb7q8x27
          case hb7q8x27 => (intro w hSw; (try dsimp only at hSw); obtain ⟨⟨z0, z1⟩, z2, z3⟩ := hSw; go_simp; try with_reducible rfl)
          (try simp only [Act.put, lq1, lq2, lq3, lq4, lq5, lq6])
          refine wt (i := 9) (v := ?vb7q9x30) rfl ?hb7q9x30 ?rb7q9x30
          case hb7q9x30 => (intro w hSw; (try dsimp only at hSw); obtain ⟨⟨z0, z1⟩, z2, z3⟩ := hSw; go_simp; try with_reducible rfl)
          (try simp only [Act.put, lq1, lq2, lq3, lq4, lq5, lq6])
          refine wt (i := 10) (v := ?vb7q10x33) rfl ?hb7q10x33 ?rb7q10x33
          case hb7q10x33 => (intro w hSw; (try dsimp only at hSw); obtain ⟨⟨z0, z1⟩, z2, z3⟩ := hSw; go_simp; try with_reducible rfl)
          (try simp only [Act.put, lq1, lq2, lq3, lq4, lq5, lq6])
          refine wt (i := 11) (v := ?vb7q11x36) rfl ?hb7q11x36 ?rb7q11x36
          case hb7q11x36 => (intro w hSw; (try dsimp only at hSw); obtain ⟨⟨z0, z1⟩, z2, z3⟩ := hSw; go_simp; try with_reducible rfl)
          (try simp only [Act.put, lq1, lq2, lq3, lq4, lq5, lq6])
          refine wt (i := 12) (v := ?vb7q12x39) rfl ?hb7q12x39 ?rb7q12x39
          case hb7q12x39 => (intro w hSw; (try dsimp only at hSw); obtain ⟨⟨z0, z1⟩, z2, z3⟩ := hSw; go_simp; try with_reducible rfl)
          (try simp only [Act.put, lq1, lq2, lq3, lq4, lq5, lq6])
          refine wt (i := 13) (v := ?vb7q13x42) rfl ?hb7q13x42 ?rb7q13x42
          case hb7q13x42 => (intro w hSw; (try dsimp only at hSw); obtain ⟨⟨z0, z1⟩, z2, z3⟩ := hSw; go_simp; try with_reducible rfl)
          (try simp only [Act.put, lq1, lq2, lq3, lq4, lq5, lq6])
          refine wt (i := 14) (v := ?vb7q14x45) rfl ?hb7q14x45 ?rb7q14x45
          case hb7q14x45 => (intro w hSw; (try dsimp only at hSw); obtain ⟨⟨z0, z1⟩, z2, z3⟩ := hSw; go_simp; try with_reducible rfl)
          (try simp only [Act.put, lq1, lq2, lq3, lq4, lq5, lq6])
          refine wpAnyH_done (by kernel_rfl) ?_ _
          go_wp2
          clear gz
          go_loopw [11] (fun t wr => ∃ x : Nat, x ≤ N ∧ t = .int .i64 (x : Int) ∧ Hid (Gr w wr ∧ ∀ j, j < x → ∀ m, m < (lx Ls j).length → okX A0 A1 A2 (sx (lx Ls j) m))) (fun t _ => N - (intOf t).toNat)
          case atStart => exact ⟨0, Nat.zero_le _, rfl, hidb ⟨HG.out, fun j hj => by omega⟩⟩
          case round =>
            clear HG
            obtain ⟨x, hx, rfl, E⟩ := hrel
            have cP := HP.out _ E.out.1
            by_cases h1 : ¬ x < N
            · have h1' : ¬ (x : Int) < (N : Int) := by omega
              have HAll := hidb (show ∀ j, j < N → ∀ m, m < (lx Ls j).length → okX A0 A1 A2 (sx (lx Ls j) m) from fun j hj => E.out.2 j (by omega))
              have HG := hidb E.out.1
              clear h1 E
              go_wp2_with (go_at_call 37; refine (HWo.out _ HG.out).mono ?_; rintro e w5 ⟨ob, ad', b', cap', rfl, hp5, hL5, hB5⟩; replace HG := hidb (Gr.step HG.out hB5.out))
              go_wp2_with (go_at_call 8; refine (HMe.out _ _ _ _ _ _ hp5 hL5).mono ?_; rintro e w6 ⟨rfl, hB6⟩; replace HG := hidb (Gr.step HG.out hB6.out))
              by_cases hz : mcd (woM Ls i k) = 0
              · have q9 : ((mcd (woM Ls i k) : Int) == 0) = true := by rw [hz]; rfl
                go_wp2
                go_ret
                exact ⟨by rw [HSq.out.1 ⟨HAll.out, hz⟩, q9]; rfl, HG.out⟩
              · have q9 : ((mcd (woM Ls i k) : Int) == 0) = false := by simp; omega
                go_wp2
                go_ret
                exact ⟨by rw [HSq.out.2 (fun z => hz z.2), q9]; rfl, HG.out⟩
            · have h1' : (x : Int) < (N : Int) := by omega
              have H1 := hidb (show x < N by omega)
              have hxL : x < Ls.length := by rw [← HN.out]; exact H1.out
              have e1 : IntKind.i64.wrap ((x : Int) + 1) = ((x + 1 : Nat) : Int) := by rw [show (x : Int) + 1 = ((x + 1 : Nat) : Int) by omega]; exact wr_in (by omega) (by have := HNb.out; have := HN.out; omega)
              obtain ⟨⟨a3, b3, o3, c3, y0w, y1, hS3⟩, yb⟩ := HLd.out.row x hxL
              have HCx : Hid (∀ W, Gr w W → W.cell? ⟨b, o + x, none⟩ = some (.slice a3 (lx Ls x).length c3)) := fun W hG => (hG.out.cell (p := ⟨b, o + x, none⟩) yb).trans y0w
              have ix : ∀ w, (Instr.indexAt 30 (.slice ad N cap) (.int .i64 (x : Int))).run Tryd.prog w = .ok (.pointer (some ⟨b, o + x, none⟩)) w := by
                have := HLd.out.ix x hxL
                rw [← HN.out] at this
                exact this
              have HS3 := hidb (fun W (hG : Gr w W) => hS3.gr hG)
              have HSx3 := hidb hS3.ix
              have HLx := hidb (HLb.out x hxL)
              have HX3 := hidb (HX.out x hxL)
              obtain ⟨Q, hQ⟩ : ∃ z, z = lx Ls x := ⟨_, rfl⟩
              have HQ := hidb hQ
              rw [← hQ] at HCx HS3 HSx3 HLx HX3
              obtain ⟨L3, hL3⟩ : ∃ z, z = Q.length := ⟨_, rfl⟩
              have HQl := hidb hL3
              rw [← hL3] at HCx HSx3 HLx
              have HPv := hidb E.out.2
              have E0 : Hid (Gr w wr ∧ ∀ m, m < 0 → okX A0 A1 A2 (sx Q m)) := ⟨E.out.1, fun m hm => by omega⟩
              clear h1 hxL y0w y1 hS3 yb hQ hL3 E
              go_wp2
              clear cP
              go_loopw [12] (fun t wx => ∃ j : Nat, j ≤ L3 ∧ t = .int .i64 (j : Int) ∧ Hid (Gr w wx ∧ ∀ m, m < j → okX A0 A1 A2 (sx Q m))) (fun t _ => L3 - (intOf t).toNat)
              case atStart => exact ⟨0, Nat.zero_le _, rfl, E0⟩
              case round =>
                clear E0
                obtain ⟨j, hj, rfl, E⟩ := hrel
                have cP := HP.out _ E.out.1
                have cX := HCx.out _ E.out.1
                by_cases h2 : ¬ j < L3
                · have h2' : ¬ (j : Int) < (L3 : Int) := by omega
                  have HE : Hid (Gr w wr ∧ ∀ j, j < x + 1 → ∀ m, m < (lx Ls j).length → okX A0 A1 A2 (sx (lx Ls j) m)) := by
                    refine ⟨E.out.1, fun j' hj' m hm => ?_⟩
                    rcases Nat.lt_succ_iff_lt_or_eq.1 hj' with c | c
                    · exact HPv.out j' c m hm
                    · subst c
                      rw [← HQ.out] at hm ⊢
                      exact E.out.2 m (by have := HQl.out; omega)
                  clear h2 E
                  go_wp2
                  go_roundw
                  case rel => exact ⟨x + 1, H1.out, by go_num, HE⟩
                  case measure => have := H1.out; simp [intOf]; omega
                · have h2' : (j : Int) < (L3 : Int) := by omega
                  have H2 := hidb (show j < L3 by omega)
                  have hjQ : j < Q.length := by rw [← HQl.out]; exact H2.out
                  have e2 : IntKind.i64.wrap ((j : Int) + 1) = ((j + 1 : Nat) : Int) := by rw [show (j : Int) + 1 = ((j + 1 : Nat) : Int) by omega]; exact wr_in (by omega) (by have := HLx.out; omega)
                  obtain ⟨⟨s0, s1⟩, -⟩ := (HS3.out _ E.out.1).row j hjQ
                  have ixs := HSx3.out j H2.out
                  have HIn := hidb (HX3.out j hjQ)
                  have HMr : Hid (okX A0 A1 A2 (sx Q j) → ∀ m, m < j + 1 → okX A0 A1 A2 (sx Q m)) := fun z m hm => by
                    rcases Nat.lt_succ_iff_lt_or_eq.1 hm with c | c
                    · exact E.out.2 m c
                    · rw [c]; exact z
                  have HBad : Hid (¬ okX A0 A1 A2 (sx Q j) → ¬ ((∀ j, j < N → ∀ m, m < (lx Ls j).length → okX A0 A1 A2 (sx (lx Ls j) m)) ∧ mcd (woM Ls i k) = 0)) := fun z y => z (by have := y.1 x H1.out j (by rw [← HQ.out]; exact hjQ); rw [← HQ.out] at this; exact this)
                  have HG := hidb E.out.1
                  obtain ⟨x0, hx0⟩ : ∃ z, z = sx Q j := ⟨_, rfl⟩
                  rw [← hx0] at s0 s1 HIn HMr HBad
                  clear h2 E hjQ hx0
                  go_upto_region 14 with fail
                  have PX : Hid (At (wr.alloc (.cells #[.int .i64 x0.1, .int .i64 x0.2] 52)) wr.heap.size [.int .i64 x0.1, .int .i64 x0.2] ∧ Gr w (wr.alloc (.cells #[.int .i64 x0.1, .int .i64 x0.2] 52))) := ⟨At.new2 _ _ _ _, HG.out.alloc _⟩
                  generalize wr.alloc (.cells #[.int .i64 x0.1, .int .i64 x0.2] 52) = W8 at *
                  generalize wr.heap.size = XB at *
                  have t0 := HGs.out.1 x0
                  have t1 := HGs.out.2.1 x0
                  have t2 := HGs.out.2.2 x0
                  clear s0 s1 cP cX HG
                  by_cases c0 : x0 = A0
                  · rw [decide_eq_true c0] at t0
                    have HZ := hidb (HMr.out (fun z => absurd c0 z))
                    clear c0 t1 t2 HBad
                    refine wp_region_held_drew (S := (fun w' => (w'.cell? ⟨XB, 0, none⟩ = some (.int .i64 x0.1) ∧ w'.cell? ⟨XB, 1, none⟩ = some (.int .i64 x0.2)) ∧ (w'.cell? ⟨b1, u0, none⟩ = some (.int .i64 A0.1) ∧ w'.cell? ⟨b1, u0 + 1, none⟩ = some (.int .i64 A0.2)) ∧ (w'.cell? ⟨b1, u1, none⟩ = some (.int .i64 A1.1) ∧ w'.cell? ⟨b1, u1 + 1, none⟩ = some (.int .i64 A1.2)) ∧ (w'.cell? ⟨b1, u2, none⟩ = some (.int .i64 A2.1) ∧ w'.cell? ⟨b1, u2 + 1, none⟩ = some (.int .i64 A2.2)))) (by kernel_rfl) ?_ (fun hHeld => ?_)
                    · (try dsimp only); exact ⟨PX.out.1.drew.c2, HC.out _ PX.out.2.drew⟩
                    skip
                    refine wt (i := 0) (v := ?vc9q0x3) rfl ?hc9q0x3 ?rc9q0x3
                    case hc9q0x3 => (intro w hSw; (try dsimp only at hSw); obtain ⟨⟨z6, z7⟩, ⟨z0, z1⟩, ⟨z2, z3⟩, z4, z5⟩ := hSw; go_simp; try with_reducible rfl)
                    (try simp only [Act.put, lq1, lq2, lq4, lq5, lq6])
                    refine wt (i := 1) (v := ?vc9q1x6) rfl ?hc9q1x6 ?rc9q1x6
                    case hc9q1x6 => (intro w hSw; (try dsimp only at hSw); obtain ⟨⟨z6, z7⟩, ⟨z0, z1⟩, ⟨z2, z3⟩, z4, z5⟩ := hSw; go_simp; try with_reducible rfl)
                    (try simp only [Act.put, lq1, lq2, lq3, lq4, lq5, lq6])
                    refine wt (i := 2) (v := ?vc9q2x9) rfl ?hc9q2x9 ?rc9q2x9
                    case hc9q2x9 => (intro w hSw; (try dsimp only at hSw); obtain ⟨⟨z6, z7⟩, ⟨z0, z1⟩, ⟨z2, z3⟩, z4, z5⟩ := hSw; go_simp; try with_reducible rfl)
                    (try simp only [Act.put, lq1, lq2, lq3, lq4, lq5, lq6])
                    refine wt (i := 3) (v := ?vc9q3x12) rfl ?hc9q3x12 ?rc9q3x12
                    case hc9q3x12 => (intro w hSw; (try dsimp only at hSw); obtain ⟨⟨z6, z7⟩, ⟨z0, z1⟩, ⟨z2, z3⟩, z4, z5⟩ := hSw; go_simp; try with_reducible rfl)
                    (try simp only [Act.put, lq1, lq2, lq3, lq4, lq5, lq6])
                    refine wt (i := 4) (v := ?vc9q4x15) rfl ?hc9q4x15 ?rc9q4x15
                    case hc9q4x15 => (intro w hSw; (try dsimp only at hSw); obtain ⟨⟨z6, z7⟩, ⟨z0, z1⟩, ⟨z2, z3⟩, z4, z5⟩ := hSw; go_simp; try with_reducible rfl)
                    (try simp only [Act.put, lq1, lq2, lq3, lq4, lq5, lq6])
                    refine wt (i := 5) (v := ?vc9q5x18) rfl ?hc9q5x18 ?rc9q5x18
                    case hc9q5x18 => (intro w hSw; (try dsimp only at hSw); obtain ⟨⟨z6, z7⟩, ⟨z0, z1⟩, ⟨z2, z3⟩, z4, z5⟩ := hSw; go_simp; try with_reducible rfl)
                    (try simp only [Act.put, lq1, lq2, lq3, lq4, lq5, lq6])
                    refine wt (i := 6) (v := ?vc9q6x21) rfl ?hc9q6x21 ?rc9q6x21
                    case hc9q6x21 => (intro w hSw; (try dsimp only at hSw); obtain ⟨⟨z6, z7⟩, ⟨z0, z1⟩, ⟨z2, z3⟩, z4, z5⟩ := hSw; go_simp; try with_reducible rfl)
                    (try simp only [Act.put, lq1, lq2, lq3, lq4, lq5, lq6])
                    refine wt (i := 7) (v := ?vc9q7x24) rfl ?hc9q7x24 ?rc9q7x24
                    case hc9q7x24 => (intro w hSw; (try dsimp only at hSw); obtain ⟨⟨z6, z7⟩, ⟨z0, z1⟩, ⟨z2, z3⟩, z4, z5⟩ := hSw; go_simp; try with_reducible rfl)
                    (try simp only [Act.put, lq1, lq2, lq3, lq4, lq5, lq6])
                    refine wu (i := 8) rfl ?_
                    (try simp only [Act.put, lq1, lq2, lq3, lq4, lq5, lq6])
                    refine wu (i := 9) rfl ?_
                    (try simp only [Act.put, lq1, lq2, lq3, lq4, lq5, lq6])
                    refine wu (i := 10) rfl ?_
                    (try simp only [Act.put, lq1, lq2, lq3, lq4, lq5, lq6])
                    refine wu (i := 11) rfl ?_
                    (try simp only [Act.put, lq1, lq2, lq3, lq4, lq5, lq6])
                    refine wu (i := 12) rfl ?_
                    (try simp only [Act.put, lq1, lq2, lq3, lq4, lq5, lq6])
                    refine wu (i := 13) rfl ?_
                    (try simp only [Act.put, lq1, lq2, lq3, lq4, lq5, lq6])
                    refine wt (i := 14) (v := ?vc9q14x39) rfl ?hc9q14x39 ?rc9q14x39
                    case hc9q14x39 => (intro w hSw; (try dsimp only at hSw); obtain ⟨⟨z6, z7⟩, ⟨z0, z1⟩, ⟨z2, z3⟩, z4, z5⟩ := hSw; go_simp; try with_reducible rfl)
                    (try simp only [Act.put, lq1, lq2, lq3, lq4, lq5, lq6])
                    refine wt (i := 15) (v := ?vc9q15x42) rfl ?hc9q15x42 ?rc9q15x42
                    case hc9q15x42 => (intro w hSw; (try dsimp only at hSw); obtain ⟨⟨z6, z7⟩, ⟨z0, z1⟩, ⟨z2, z3⟩, z4, z5⟩ := hSw; go_simp; try with_reducible rfl)
                    (try simp only [Act.put, lq1, lq2, lq3, lq4, lq5, lq6])
                    refine wu (i := 16) rfl ?_
                    (try simp only [Act.put, lq1, lq2, lq3, lq4, lq5, lq6])
                    refine wu (i := 17) rfl ?_
                    (try simp only [Act.put, lq1, lq2, lq3, lq4, lq5, lq6])
                    refine wu (i := 18) rfl ?_
                    (try simp only [Act.put, lq1, lq2, lq3, lq4, lq5, lq6])
                    refine wu (i := 19) rfl ?_
                    (try simp only [Act.put, lq1, lq2, lq3, lq4, lq5, lq6])
                    refine wu (i := 20) rfl ?_
                    (try simp only [Act.put, lq1, lq2, lq3, lq4, lq5, lq6])
                    refine wu (i := 21) rfl ?_
                    (try simp only [Act.put, lq1, lq2, lq3, lq4, lq5, lq6])
                    refine wu (i := 22) rfl ?_
                    (try simp only [Act.put, lq1, lq2, lq3, lq4, lq5, lq6])
                    refine wt (i := 23) (v := ?vc9q23x59) rfl ?hc9q23x59 ?rc9q23x59
                    case hc9q23x59 => (intro w hSw; (try dsimp only at hSw); obtain ⟨⟨z6, z7⟩, ⟨z0, z1⟩, ⟨z2, z3⟩, z4, z5⟩ := hSw; go_simp; try with_reducible rfl)
                    (try simp only [Act.put, lq1, lq2, lq3, lq4, lq5, lq6])
                    refine wpAnyH_done (by kernel_rfl) ?_ _
                    go_wp2
                    go_roundw
                    case rel => exact ⟨j + 1, H2.out, by go_num, hidb ⟨by first | exact PX.out.2 | exact PX.out.2.drew, HZ.out⟩⟩
                    case measure => have := H2.out; simp [intOf]; omega
                  · rw [decide_eq_false c0] at t0
                    by_cases c1 : x0 = A1
                    · rw [decide_eq_true c1] at t1
                      have HZ := hidb (HMr.out (fun _ z => absurd c1 z))
                      clear c0 c1 t2 HBad
                      refine wp_region_held_drew (S := (fun w' => (w'.cell? ⟨XB, 0, none⟩ = some (.int .i64 x0.1) ∧ w'.cell? ⟨XB, 1, none⟩ = some (.int .i64 x0.2)) ∧ (w'.cell? ⟨b1, u0, none⟩ = some (.int .i64 A0.1) ∧ w'.cell? ⟨b1, u0 + 1, none⟩ = some (.int .i64 A0.2)) ∧ (w'.cell? ⟨b1, u1, none⟩ = some (.int .i64 A1.1) ∧ w'.cell? ⟨b1, u1 + 1, none⟩ = some (.int .i64 A1.2)) ∧ (w'.cell? ⟨b1, u2, none⟩ = some (.int .i64 A2.1) ∧ w'.cell? ⟨b1, u2 + 1, none⟩ = some (.int .i64 A2.2)))) (by kernel_rfl) ?_ (fun hHeld => ?_)
                      · (try dsimp only); exact ⟨PX.out.1.drew.c2, HC.out _ PX.out.2.drew⟩
                      skip
                      refine wt (i := 0) (v := ?vc11q0x3) rfl ?hc11q0x3 ?rc11q0x3
                      case hc11q0x3 => (intro w hSw; (try dsimp only at hSw); obtain ⟨⟨z6, z7⟩, ⟨z0, z1⟩, ⟨z2, z3⟩, z4, z5⟩ := hSw; go_simp; try with_reducible rfl)
                      (try simp only [Act.put, lq1, lq2, lq4, lq5, lq6])
                      refine wt (i := 1) (v := ?vc11q1x6) rfl ?hc11q1x6 ?rc11q1x6
                      case hc11q1x6 => (intro w hSw; (try dsimp only at hSw); obtain ⟨⟨z6, z7⟩, ⟨z0, z1⟩, ⟨z2, z3⟩, z4, z5⟩ := hSw; go_simp; try with_reducible rfl)
                      (try simp only [Act.put, lq1, lq2, lq3, lq4, lq5, lq6])
                      refine wt (i := 2) (v := ?vc11q2x9) rfl ?hc11q2x9 ?rc11q2x9
                      case hc11q2x9 => (intro w hSw; (try dsimp only at hSw); obtain ⟨⟨z6, z7⟩, ⟨z0, z1⟩, ⟨z2, z3⟩, z4, z5⟩ := hSw; go_simp; try with_reducible rfl)
                      (try simp only [Act.put, lq1, lq2, lq3, lq4, lq5, lq6])
                      refine wt (i := 3) (v := ?vc11q3x12) rfl ?hc11q3x12 ?rc11q3x12
                      case hc11q3x12 => (intro w hSw; (try dsimp only at hSw); obtain ⟨⟨z6, z7⟩, ⟨z0, z1⟩, ⟨z2, z3⟩, z4, z5⟩ := hSw; go_simp; try with_reducible rfl)
                      (try simp only [Act.put, lq1, lq2, lq3, lq4, lq5, lq6])
                      refine wt (i := 4) (v := ?vc11q4x15) rfl ?hc11q4x15 ?rc11q4x15
                      case hc11q4x15 => (intro w hSw; (try dsimp only at hSw); obtain ⟨⟨z6, z7⟩, ⟨z0, z1⟩, ⟨z2, z3⟩, z4, z5⟩ := hSw; go_simp; try with_reducible rfl)
                      (try simp only [Act.put, lq1, lq2, lq3, lq4, lq5, lq6])
                      refine wt (i := 5) (v := ?vc11q5x18) rfl ?hc11q5x18 ?rc11q5x18
                      case hc11q5x18 => (intro w hSw; (try dsimp only at hSw); obtain ⟨⟨z6, z7⟩, ⟨z0, z1⟩, ⟨z2, z3⟩, z4, z5⟩ := hSw; go_simp; try with_reducible rfl)
                      (try simp only [Act.put, lq1, lq2, lq3, lq4, lq5, lq6])
                      refine wt (i := 6) (v := ?vc11q6x21) rfl ?hc11q6x21 ?rc11q6x21
                      case hc11q6x21 => (intro w hSw; (try dsimp only at hSw); obtain ⟨⟨z6, z7⟩, ⟨z0, z1⟩, ⟨z2, z3⟩, z4, z5⟩ := hSw; go_simp; try with_reducible rfl)
                      (try simp only [Act.put, lq1, lq2, lq3, lq4, lq5, lq6])
                      refine wt (i := 7) (v := ?vc11q7x24) rfl ?hc11q7x24 ?rc11q7x24
                      case hc11q7x24 => (intro w hSw; (try dsimp only at hSw); obtain ⟨⟨z6, z7⟩, ⟨z0, z1⟩, ⟨z2, z3⟩, z4, z5⟩ := hSw; go_simp; try with_reducible rfl)
                      (try simp only [Act.put, lq1, lq2, lq3, lq4, lq5, lq6])
                      refine wt (i := 8) (v := ?vc11q8x27) rfl ?hc11q8x27 ?rc11q8x27
                      case hc11q8x27 => (intro w hSw; (try dsimp only at hSw); obtain ⟨⟨z6, z7⟩, ⟨z0, z1⟩, ⟨z2, z3⟩, z4, z5⟩ := hSw; go_simp; try with_reducible rfl)
                      (try simp only [Act.put, lq1, lq2, lq3, lq4, lq5, lq6])
                      refine wt (i := 9) (v := ?vc11q9x30) rfl ?hc11q9x30 ?rc11q9x30
                      case hc11q9x30 => (intro w hSw; (try dsimp only at hSw); obtain ⟨⟨z6, z7⟩, ⟨z0, z1⟩, ⟨z2, z3⟩, z4, z5⟩ := hSw; go_simp; try with_reducible rfl)
                      (try simp only [Act.put, lq1, lq2, lq3, lq4, lq5, lq6])
                      refine wt (i := 10) (v := ?vc11q10x33) rfl ?hc11q10x33 ?rc11q10x33
                      case hc11q10x33 => (intro w hSw; (try dsimp only at hSw); obtain ⟨⟨z6, z7⟩, ⟨z0, z1⟩, ⟨z2, z3⟩, z4, z5⟩ := hSw; go_simp; try with_reducible rfl)
                      (try simp only [Act.put, lq1, lq2, lq3, lq4, lq5, lq6])
                      refine wt (i := 11) (v := ?vc11q11x36) rfl ?hc11q11x36 ?rc11q11x36
                      case hc11q11x36 => (intro w hSw; (try dsimp only at hSw); obtain ⟨⟨z6, z7⟩, ⟨z0, z1⟩, ⟨z2, z3⟩, z4, z5⟩ := hSw; go_simp; try with_reducible rfl)
                      (try simp only [Act.put, lq1, lq2, lq3, lq4, lq5, lq6])
                      refine wt (i := 12) (v := ?vc11q12x39) rfl ?hc11q12x39 ?rc11q12x39
                      case hc11q12x39 => (intro w hSw; (try dsimp only at hSw); obtain ⟨⟨z6, z7⟩, ⟨z0, z1⟩, ⟨z2, z3⟩, z4, z5⟩ := hSw; go_simp; try with_reducible rfl)
                      (try simp only [Act.put, lq1, lq2, lq3, lq4, lq5, lq6])
                      refine wt (i := 13) (v := ?vc11q13x42) rfl ?hc11q13x42 ?rc11q13x42
                      case hc11q13x42 => (intro w hSw; (try dsimp only at hSw); obtain ⟨⟨z6, z7⟩, ⟨z0, z1⟩, ⟨z2, z3⟩, z4, z5⟩ := hSw; go_simp; try with_reducible rfl)
                      (try simp only [Act.put, lq1, lq2, lq3, lq4, lq5, lq6])
                      refine wt (i := 14) (v := ?vc11q14x45) rfl ?hc11q14x45 ?rc11q14x45
                      case hc11q14x45 => (intro w hSw; (try dsimp only at hSw); obtain ⟨⟨z6, z7⟩, ⟨z0, z1⟩, ⟨z2, z3⟩, z4, z5⟩ := hSw; go_simp; try with_reducible rfl)
                      (try simp only [Act.put, lq1, lq2, lq3, lq4, lq5, lq6])
                      refine wt (i := 15) (v := ?vc11q15x48) rfl ?hc11q15x48 ?rc11q15x48
                      case hc11q15x48 => (intro w hSw; (try dsimp only at hSw); obtain ⟨⟨z6, z7⟩, ⟨z0, z1⟩, ⟨z2, z3⟩, z4, z5⟩ := hSw; go_simp; try with_reducible rfl)
                      (try simp only [Act.put, lq1, lq2, lq3, lq4, lq5, lq6])
                      refine wu (i := 16) rfl ?_
                      (try simp only [Act.put, lq1, lq2, lq3, lq4, lq5, lq6])
                      refine wu (i := 17) rfl ?_
                      (try simp only [Act.put, lq1, lq2, lq3, lq4, lq5, lq6])
                      refine wu (i := 18) rfl ?_
                      (try simp only [Act.put, lq1, lq2, lq3, lq4, lq5, lq6])
                      refine wu (i := 19) rfl ?_
                      (try simp only [Act.put, lq1, lq2, lq3, lq4, lq5, lq6])
                      refine wu (i := 20) rfl ?_
                      (try simp only [Act.put, lq1, lq2, lq3, lq4, lq5, lq6])
                      refine wu (i := 21) rfl ?_
                      (try simp only [Act.put, lq1, lq2, lq3, lq4, lq5, lq6])
                      refine wu (i := 22) rfl ?_
                      (try simp only [Act.put, lq1, lq2, lq3, lq4, lq5, lq6])
                      refine wt (i := 23) (v := ?vc11q23x65) rfl ?hc11q23x65 ?rc11q23x65
                      case hc11q23x65 => (intro w hSw; (try dsimp only at hSw); obtain ⟨⟨z6, z7⟩, ⟨z0, z1⟩, ⟨z2, z3⟩, z4, z5⟩ := hSw; go_simp; try with_reducible rfl)
                      (try simp only [Act.put, lq1, lq2, lq3, lq4, lq5, lq6])
                      refine wpAnyH_done (by kernel_rfl) ?_ _
                      go_wp2
                      go_roundw
                      case rel => exact ⟨j + 1, H2.out, by go_num, hidb ⟨by first | exact PX.out.2 | exact PX.out.2.drew, HZ.out⟩⟩
                      case measure => have := H2.out; simp [intOf]; omega
                    · rw [decide_eq_false c1] at t1
                      by_cases c2 : x0 = A2
                      · rw [decide_eq_true c2] at t2
                        have HZ := hidb (HMr.out (fun _ _ z => absurd c2 z))
                        clear c0 c1 c2 HBad
                        refine wp_region_held_drew (S := (fun w' => (w'.cell? ⟨XB, 0, none⟩ = some (.int .i64 x0.1) ∧ w'.cell? ⟨XB, 1, none⟩ = some (.int .i64 x0.2)) ∧ (w'.cell? ⟨b1, u0, none⟩ = some (.int .i64 A0.1) ∧ w'.cell? ⟨b1, u0 + 1, none⟩ = some (.int .i64 A0.2)) ∧ (w'.cell? ⟨b1, u1, none⟩ = some (.int .i64 A1.1) ∧ w'.cell? ⟨b1, u1 + 1, none⟩ = some (.int .i64 A1.2)) ∧ (w'.cell? ⟨b1, u2, none⟩ = some (.int .i64 A2.1) ∧ w'.cell? ⟨b1, u2 + 1, none⟩ = some (.int .i64 A2.2)))) (by kernel_rfl) ?_ (fun hHeld => ?_)
                        · (try dsimp only); exact ⟨PX.out.1.drew.c2, HC.out _ PX.out.2.drew⟩
                        skip
                        refine wt (i := 0) (v := ?vc13q0x3) rfl ?hc13q0x3 ?rc13q0x3
                        case hc13q0x3 => (intro w hSw; (try dsimp only at hSw); obtain ⟨⟨z6, z7⟩, ⟨z0, z1⟩, ⟨z2, z3⟩, z4, z5⟩ := hSw; go_simp; try with_reducible rfl)
                        (try simp only [Act.put, lq1, lq2, lq4, lq5, lq6])
                        refine wt (i := 1) (v := ?vc13q1x6) rfl ?hc13q1x6 ?rc13q1x6
                        case hc13q1x6 => (intro w hSw; (try dsimp only at hSw); obtain ⟨⟨z6, z7⟩, ⟨z0, z1⟩, ⟨z2, z3⟩, z4, z5⟩ := hSw; go_simp; try with_reducible rfl)
                        (try simp only [Act.put, lq1, lq2, lq3, lq4, lq5, lq6])
                        refine wt (i := 2) (v := ?vc13q2x9) rfl ?hc13q2x9 ?rc13q2x9
                        case hc13q2x9 => (intro w hSw; (try dsimp only at hSw); obtain ⟨⟨z6, z7⟩, ⟨z0, z1⟩, ⟨z2, z3⟩, z4, z5⟩ := hSw; go_simp; try with_reducible rfl)
                        (try simp only [Act.put, lq1, lq2, lq3, lq4, lq5, lq6])
                        refine wt (i := 3) (v := ?vc13q3x12) rfl ?hc13q3x12 ?rc13q3x12
                        case hc13q3x12 => (intro w hSw; (try dsimp only at hSw); obtain ⟨⟨z6, z7⟩, ⟨z0, z1⟩, ⟨z2, z3⟩, z4, z5⟩ := hSw; go_simp; try with_reducible rfl)
                        (try simp only [Act.put, lq1, lq2, lq3, lq4, lq5, lq6])
                        refine wt (i := 4) (v := ?vc13q4x15) rfl ?hc13q4x15 ?rc13q4x15
                        case hc13q4x15 => (intro w hSw; (try dsimp only at hSw); obtain ⟨⟨z6, z7⟩, ⟨z0, z1⟩, ⟨z2, z3⟩, z4, z5⟩ := hSw; go_simp; try with_reducible rfl)
                        (try simp only [Act.put, lq1, lq2, lq3, lq4, lq5, lq6])
                        refine wt (i := 5) (v := ?vc13q5x18) rfl ?hc13q5x18 ?rc13q5x18
                        case hc13q5x18 => (intro w hSw; (try dsimp only at hSw); obtain ⟨⟨z6, z7⟩, ⟨z0, z1⟩, ⟨z2, z3⟩, z4, z5⟩ := hSw; go_simp; try with_reducible rfl)
                        (try simp only [Act.put, lq1, lq2, lq3, lq4, lq5, lq6])
                        refine wt (i := 6) (v := ?vc13q6x21) rfl ?hc13q6x21 ?rc13q6x21
                        case hc13q6x21 => (intro w hSw; (try dsimp only at hSw); obtain ⟨⟨z6, z7⟩, ⟨z0, z1⟩, ⟨z2, z3⟩, z4, z5⟩ := hSw; go_simp; try with_reducible rfl)
                        (try simp only [Act.put, lq1, lq2, lq3, lq4, lq5, lq6])
                        refine wt (i := 7) (v := ?vc13q7x24) rfl ?hc13q7x24 ?rc13q7x24
                        case hc13q7x24 => (intro w hSw; (try dsimp only at hSw); obtain ⟨⟨z6, z7⟩, ⟨z0, z1⟩, ⟨z2, z3⟩, z4, z5⟩ := hSw; go_simp; try with_reducible rfl)
                        (try simp only [Act.put, lq1, lq2, lq3, lq4, lq5, lq6])
                        refine wt (i := 8) (v := ?vc13q8x27) rfl ?hc13q8x27 ?rc13q8x27
                        case hc13q8x27 => (intro w hSw; (try dsimp only at hSw); obtain ⟨⟨z6, z7⟩, ⟨z0, z1⟩, ⟨z2, z3⟩, z4, z5⟩ := hSw; go_simp; try with_reducible rfl)
                        (try simp only [Act.put, lq1, lq2, lq3, lq4, lq5, lq6])
                        refine wt (i := 9) (v := ?vc13q9x30) rfl ?hc13q9x30 ?rc13q9x30
                        case hc13q9x30 => (intro w hSw; (try dsimp only at hSw); obtain ⟨⟨z6, z7⟩, ⟨z0, z1⟩, ⟨z2, z3⟩, z4, z5⟩ := hSw; go_simp; try with_reducible rfl)
                        (try simp only [Act.put, lq1, lq2, lq3, lq4, lq5, lq6])
                        refine wt (i := 10) (v := ?vc13q10x33) rfl ?hc13q10x33 ?rc13q10x33
                        case hc13q10x33 => (intro w hSw; (try dsimp only at hSw); obtain ⟨⟨z6, z7⟩, ⟨z0, z1⟩, ⟨z2, z3⟩, z4, z5⟩ := hSw; go_simp; try with_reducible rfl)
                        (try simp only [Act.put, lq1, lq2, lq3, lq4, lq5, lq6])
                        refine wt (i := 11) (v := ?vc13q11x36) rfl ?hc13q11x36 ?rc13q11x36
                        case hc13q11x36 => (intro w hSw; (try dsimp only at hSw); obtain ⟨⟨z6, z7⟩, ⟨z0, z1⟩, ⟨z2, z3⟩, z4, z5⟩ := hSw; go_simp; try with_reducible rfl)
                        (try simp only [Act.put, lq1, lq2, lq3, lq4, lq5, lq6])
                        refine wt (i := 12) (v := ?vc13q12x39) rfl ?hc13q12x39 ?rc13q12x39
                        case hc13q12x39 => (intro w hSw; (try dsimp only at hSw); obtain ⟨⟨z6, z7⟩, ⟨z0, z1⟩, ⟨z2, z3⟩, z4, z5⟩ := hSw; go_simp; try with_reducible rfl)
                        (try simp only [Act.put, lq1, lq2, lq3, lq4, lq5, lq6])
                        refine wt (i := 13) (v := ?vc13q13x42) rfl ?hc13q13x42 ?rc13q13x42
                        case hc13q13x42 => (intro w hSw; (try dsimp only at hSw); obtain ⟨⟨z6, z7⟩, ⟨z0, z1⟩, ⟨z2, z3⟩, z4, z5⟩ := hSw; go_simp; try with_reducible rfl)
                        (try simp only [Act.put, lq1, lq2, lq3, lq4, lq5, lq6])
                        refine wt (i := 14) (v := ?vc13q14x45) rfl ?hc13q14x45 ?rc13q14x45
                        case hc13q14x45 => (intro w hSw; (try dsimp only at hSw); obtain ⟨⟨z6, z7⟩, ⟨z0, z1⟩, ⟨z2, z3⟩, z4, z5⟩ := hSw; go_simp; try with_reducible rfl)
                        (try simp only [Act.put, lq1, lq2, lq3, lq4, lq5, lq6])
                        refine wt (i := 15) (v := ?vc13q15x48) rfl ?hc13q15x48 ?rc13q15x48
                        case hc13q15x48 => (intro w hSw; (try dsimp only at hSw); obtain ⟨⟨z6, z7⟩, ⟨z0, z1⟩, ⟨z2, z3⟩, z4, z5⟩ := hSw; go_simp; try with_reducible rfl)
                        (try simp only [Act.put, lq1, lq2, lq3, lq4, lq5, lq6])
                        refine wt (i := 16) (v := ?vc13q16x51) rfl ?hc13q16x51 ?rc13q16x51
                        case hc13q16x51 => (intro w hSw; (try dsimp only at hSw); obtain ⟨⟨z6, z7⟩, ⟨z0, z1⟩, ⟨z2, z3⟩, z4, z5⟩ := hSw; go_simp; try with_reducible rfl)
                        (try simp only [Act.put, lq1, lq2, lq3, lq4, lq5, lq6])
                        refine wt (i := 17) (v := ?vc13q17x54) rfl ?hc13q17x54 ?rc13q17x54
                        case hc13q17x54 => (intro w hSw; (try dsimp only at hSw); obtain ⟨⟨z6, z7⟩, ⟨z0, z1⟩, ⟨z2, z3⟩, z4, z5⟩ := hSw; go_simp; try with_reducible rfl)
                        (try simp only [Act.put, lq1, lq2, lq3, lq4, lq5, lq6])
                        refine wt (i := 18) (v := ?vc13q18x57) rfl ?hc13q18x57 ?rc13q18x57
                        case hc13q18x57 => (intro w hSw; (try dsimp only at hSw); obtain ⟨⟨z6, z7⟩, ⟨z0, z1⟩, ⟨z2, z3⟩, z4, z5⟩ := hSw; go_simp; try with_reducible rfl)
                        (try simp only [Act.put, lq1, lq2, lq3, lq4, lq5, lq6])
                        refine wt (i := 19) (v := ?vc13q19x60) rfl ?hc13q19x60 ?rc13q19x60
                        case hc13q19x60 => (intro w hSw; (try dsimp only at hSw); obtain ⟨⟨z6, z7⟩, ⟨z0, z1⟩, ⟨z2, z3⟩, z4, z5⟩ := hSw; go_simp; try with_reducible rfl)
                        (try simp only [Act.put, lq1, lq2, lq3, lq4, lq5, lq6])
                        refine wt (i := 20) (v := ?vc13q20x63) rfl ?hc13q20x63 ?rc13q20x63
                        case hc13q20x63 => (intro w hSw; (try dsimp only at hSw); obtain ⟨⟨z6, z7⟩, ⟨z0, z1⟩, ⟨z2, z3⟩, z4, z5⟩ := hSw; go_simp; try with_reducible rfl)
                        (try simp only [Act.put, lq1, lq2, lq3, lq4, lq5, lq6])
                        refine wt (i := 21) (v := ?vc13q21x66) rfl ?hc13q21x66 ?rc13q21x66
                        case hc13q21x66 => (intro w hSw; (try dsimp only at hSw); obtain ⟨⟨z6, z7⟩, ⟨z0, z1⟩, ⟨z2, z3⟩, z4, z5⟩ := hSw; go_simp; try with_reducible rfl)
                        (try simp only [Act.put, lq1, lq2, lq3, lq4, lq5, lq6])
                        refine wt (i := 22) (v := ?vc13q22x69) rfl ?hc13q22x69 ?rc13q22x69
                        case hc13q22x69 => (intro w hSw; (try dsimp only at hSw); obtain ⟨⟨z6, z7⟩, ⟨z0, z1⟩, ⟨z2, z3⟩, z4, z5⟩ := hSw; go_simp; try with_reducible rfl)
                        (try simp only [Act.put, lq1, lq2, lq3, lq4, lq5, lq6])
                        refine wt (i := 23) (v := ?vc13q23x72) rfl ?hc13q23x72 ?rc13q23x72
                        case hc13q23x72 => (intro w hSw; (try dsimp only at hSw); obtain ⟨⟨z6, z7⟩, ⟨z0, z1⟩, ⟨z2, z3⟩, z4, z5⟩ := hSw; go_simp; try with_reducible rfl)
                        (try simp only [Act.put, lq1, lq2, lq3, lq4, lq5, lq6])
                        refine wpAnyH_done (by kernel_rfl) ?_ _
                        go_wp2
                        go_roundw
                        case rel => exact ⟨j + 1, H2.out, by go_num, hidb ⟨by first | exact PX.out.2 | exact PX.out.2.drew, HZ.out⟩⟩
                        case measure => have := H2.out; simp [intOf]; omega
                      · rw [decide_eq_false c2] at t2
                        by_cases c3 : rfP A0 A1 A2 x0
                        · rw [decide_eq_true c3] at HIn
                          have HZ := hidb (HSq.out.2 (HBad.out (fun z => z c0 c1 c2 c3)))
                          clear c0 c1 c2 c3 HMr
                          refine wp_region_held_drew (S := (fun w' => (w'.cell? ⟨XB, 0, none⟩ = some (.int .i64 x0.1) ∧ w'.cell? ⟨XB, 1, none⟩ = some (.int .i64 x0.2)) ∧ (w'.cell? ⟨b1, u0, none⟩ = some (.int .i64 A0.1) ∧ w'.cell? ⟨b1, u0 + 1, none⟩ = some (.int .i64 A0.2)) ∧ (w'.cell? ⟨b1, u1, none⟩ = some (.int .i64 A1.1) ∧ w'.cell? ⟨b1, u1 + 1, none⟩ = some (.int .i64 A1.2)) ∧ (w'.cell? ⟨b1, u2, none⟩ = some (.int .i64 A2.1) ∧ w'.cell? ⟨b1, u2 + 1, none⟩ = some (.int .i64 A2.2)))) (by kernel_rfl) ?_ (fun hHeld => ?_)
                          · (try dsimp only); exact ⟨PX.out.1.drew.c2, HC.out _ PX.out.2.drew⟩
                          skip
                          refine wt (i := 0) (v := ?vc15q0x3) rfl ?hc15q0x3 ?rc15q0x3
                          case hc15q0x3 => (intro w hSw; (try dsimp only at hSw); obtain ⟨⟨z6, z7⟩, ⟨z0, z1⟩, ⟨z2, z3⟩, z4, z5⟩ := hSw; go_simp; try with_reducible rfl)
                          (try simp only [Act.put, lq1, lq2, lq4, lq5, lq6])
                          refine wt (i := 1) (v := ?vc15q1x6) rfl ?hc15q1x6 ?rc15q1x6
                          case hc15q1x6 => (intro w hSw; (try dsimp only at hSw); obtain ⟨⟨z6, z7⟩, ⟨z0, z1⟩, ⟨z2, z3⟩, z4, z5⟩ := hSw; go_simp; try with_reducible rfl)
                          (try simp only [Act.put, lq1, lq2, lq3, lq4, lq5, lq6])
                          refine wt (i := 2) (v := ?vc15q2x9) rfl ?hc15q2x9 ?rc15q2x9
                          case hc15q2x9 => (intro w hSw; (try dsimp only at hSw); obtain ⟨⟨z6, z7⟩, ⟨z0, z1⟩, ⟨z2, z3⟩, z4, z5⟩ := hSw; go_simp; try with_reducible rfl)
                          (try simp only [Act.put, lq1, lq2, lq3, lq4, lq5, lq6])
                          refine wt (i := 3) (v := ?vc15q3x12) rfl ?hc15q3x12 ?rc15q3x12
                          case hc15q3x12 => (intro w hSw; (try dsimp only at hSw); obtain ⟨⟨z6, z7⟩, ⟨z0, z1⟩, ⟨z2, z3⟩, z4, z5⟩ := hSw; go_simp; try with_reducible rfl)
                          (try simp only [Act.put, lq1, lq2, lq3, lq4, lq5, lq6])
                          refine wt (i := 4) (v := ?vc15q4x15) rfl ?hc15q4x15 ?rc15q4x15
                          case hc15q4x15 => (intro w hSw; (try dsimp only at hSw); obtain ⟨⟨z6, z7⟩, ⟨z0, z1⟩, ⟨z2, z3⟩, z4, z5⟩ := hSw; go_simp; try with_reducible rfl)
                          (try simp only [Act.put, lq1, lq2, lq3, lq4, lq5, lq6])
                          refine wt (i := 5) (v := ?vc15q5x18) rfl ?hc15q5x18 ?rc15q5x18
                          case hc15q5x18 => (intro w hSw; (try dsimp only at hSw); obtain ⟨⟨z6, z7⟩, ⟨z0, z1⟩, ⟨z2, z3⟩, z4, z5⟩ := hSw; go_simp; try with_reducible rfl)
                          (try simp only [Act.put, lq1, lq2, lq3, lq4, lq5, lq6])
                          refine wt (i := 6) (v := ?vc15q6x21) rfl ?hc15q6x21 ?rc15q6x21
                          case hc15q6x21 => (intro w hSw; (try dsimp only at hSw); obtain ⟨⟨z6, z7⟩, ⟨z0, z1⟩, ⟨z2, z3⟩, z4, z5⟩ := hSw; go_simp; try with_reducible rfl)
                          (try simp only [Act.put, lq1, lq2, lq3, lq4, lq5, lq6])
                          refine wt (i := 7) (v := ?vc15q7x24) rfl ?hc15q7x24 ?rc15q7x24
                          case hc15q7x24 => (intro w hSw; (try dsimp only at hSw); obtain ⟨⟨z6, z7⟩, ⟨z0, z1⟩, ⟨z2, z3⟩, z4, z5⟩ := hSw; go_simp; try with_reducible rfl)
                          (try simp only [Act.put, lq1, lq2, lq3, lq4, lq5, lq6])
                          refine wt (i := 8) (v := ?vc15q8x27) rfl ?hc15q8x27 ?rc15q8x27
                          case hc15q8x27 => (intro w hSw; (try dsimp only at hSw); obtain ⟨⟨z6, z7⟩, ⟨z0, z1⟩, ⟨z2, z3⟩, z4, z5⟩ := hSw; go_simp; try with_reducible rfl)
                          (try simp only [Act.put, lq1, lq2, lq3, lq4, lq5, lq6])
                          refine wt (i := 9) (v := ?vc15q9x30) rfl ?hc15q9x30 ?rc15q9x30
                          case hc15q9x30 => (intro w hSw; (try dsimp only at hSw); obtain ⟨⟨z6, z7⟩, ⟨z0, z1⟩, ⟨z2, z3⟩, z4, z5⟩ := hSw; go_simp; try with_reducible rfl)
                          (try simp only [Act.put, lq1, lq2, lq3, lq4, lq5, lq6])
                          refine wt (i := 10) (v := ?vc15q10x33) rfl ?hc15q10x33 ?rc15q10x33
                          case hc15q10x33 => (intro w hSw; (try dsimp only at hSw); obtain ⟨⟨z6, z7⟩, ⟨z0, z1⟩, ⟨z2, z3⟩, z4, z5⟩ := hSw; go_simp; try with_reducible rfl)
                          (try simp only [Act.put, lq1, lq2, lq3, lq4, lq5, lq6])
                          refine wt (i := 11) (v := ?vc15q11x36) rfl ?hc15q11x36 ?rc15q11x36
                          case hc15q11x36 => (intro w hSw; (try dsimp only at hSw); obtain ⟨⟨z6, z7⟩, ⟨z0, z1⟩, ⟨z2, z3⟩, z4, z5⟩ := hSw; go_simp; try with_reducible rfl)
                          (try simp only [Act.put, lq1, lq2, lq3, lq4, lq5, lq6])
                          refine wt (i := 12) (v := ?vc15q12x39) rfl ?hc15q12x39 ?rc15q12x39
                          case hc15q12x39 => (intro w hSw; (try dsimp only at hSw); obtain ⟨⟨z6, z7⟩, ⟨z0, z1⟩, ⟨z2, z3⟩, z4, z5⟩ := hSw; go_simp; try with_reducible rfl)
                          (try simp only [Act.put, lq1, lq2, lq3, lq4, lq5, lq6])
                          refine wt (i := 13) (v := ?vc15q13x42) rfl ?hc15q13x42 ?rc15q13x42
                          case hc15q13x42 => (intro w hSw; (try dsimp only at hSw); obtain ⟨⟨z6, z7⟩, ⟨z0, z1⟩, ⟨z2, z3⟩, z4, z5⟩ := hSw; go_simp; try with_reducible rfl)
                          (try simp only [Act.put, lq1, lq2, lq3, lq4, lq5, lq6])
                          refine wt (i := 14) (v := ?vc15q14x45) rfl ?hc15q14x45 ?rc15q14x45
                          case hc15q14x45 => (intro w hSw; (try dsimp only at hSw); obtain ⟨⟨z6, z7⟩, ⟨z0, z1⟩, ⟨z2, z3⟩, z4, z5⟩ := hSw; go_simp; try with_reducible rfl)
                          (try simp only [Act.put, lq1, lq2, lq3, lq4, lq5, lq6])
                          refine wt (i := 15) (v := ?vc15q15x48) rfl ?hc15q15x48 ?rc15q15x48
                          case hc15q15x48 => (intro w hSw; (try dsimp only at hSw); obtain ⟨⟨z6, z7⟩, ⟨z0, z1⟩, ⟨z2, z3⟩, z4, z5⟩ := hSw; go_simp; try with_reducible rfl)
                          (try simp only [Act.put, lq1, lq2, lq3, lq4, lq5, lq6])
                          refine wt (i := 16) (v := ?vc15q16x51) rfl ?hc15q16x51 ?rc15q16x51
                          case hc15q16x51 => (intro w hSw; (try dsimp only at hSw); obtain ⟨⟨z6, z7⟩, ⟨z0, z1⟩, ⟨z2, z3⟩, z4, z5⟩ := hSw; go_simp; try with_reducible rfl)
                          (try simp only [Act.put, lq1, lq2, lq3, lq4, lq5, lq6])
                          refine wt (i := 17) (v := ?vc15q17x54) rfl ?hc15q17x54 ?rc15q17x54
                          case hc15q17x54 => (intro w hSw; (try dsimp only at hSw); obtain ⟨⟨z6, z7⟩, ⟨z0, z1⟩, ⟨z2, z3⟩, z4, z5⟩ := hSw; go_simp; try with_reducible rfl)
                          (try simp only [Act.put, lq1, lq2, lq3, lq4, lq5, lq6])
                          refine wt (i := 18) (v := ?vc15q18x57) rfl ?hc15q18x57 ?rc15q18x57
                          case hc15q18x57 => (intro w hSw; (try dsimp only at hSw); obtain ⟨⟨z6, z7⟩, ⟨z0, z1⟩, ⟨z2, z3⟩, z4, z5⟩ := hSw; go_simp; try with_reducible rfl)
                          (try simp only [Act.put, lq1, lq2, lq3, lq4, lq5, lq6])
                          refine wt (i := 19) (v := ?vc15q19x60) rfl ?hc15q19x60 ?rc15q19x60
                          case hc15q19x60 => (intro w hSw; (try dsimp only at hSw); obtain ⟨⟨z6, z7⟩, ⟨z0, z1⟩, ⟨z2, z3⟩, z4, z5⟩ := hSw; go_simp; try with_reducible rfl)
                          (try simp only [Act.put, lq1, lq2, lq3, lq4, lq5, lq6])
                          refine wt (i := 20) (v := ?vc15q20x63) rfl ?hc15q20x63 ?rc15q20x63
                          case hc15q20x63 => (intro w hSw; (try dsimp only at hSw); obtain ⟨⟨z6, z7⟩, ⟨z0, z1⟩, ⟨z2, z3⟩, z4, z5⟩ := hSw; go_simp; try with_reducible rfl)
                          (try simp only [Act.put, lq1, lq2, lq3, lq4, lq5, lq6])
                          refine wt (i := 21) (v := ?vc15q21x66) rfl ?hc15q21x66 ?rc15q21x66
                          case hc15q21x66 => (intro w hSw; (try dsimp only at hSw); obtain ⟨⟨z6, z7⟩, ⟨z0, z1⟩, ⟨z2, z3⟩, z4, z5⟩ := hSw; go_simp; try with_reducible rfl)
                          (try simp only [Act.put, lq1, lq2, lq3, lq4, lq5, lq6])
                          refine wt (i := 22) (v := ?vc15q22x69) rfl ?hc15q22x69 ?rc15q22x69
                          case hc15q22x69 => (intro w hSw; (try dsimp only at hSw); obtain ⟨⟨z6, z7⟩, ⟨z0, z1⟩, ⟨z2, z3⟩, z4, z5⟩ := hSw; go_simp; try with_reducible rfl)
                          (try simp only [Act.put, lq1, lq2, lq3, lq4, lq5, lq6])
                          refine wt (i := 23) (v := ?vc15q23x72) rfl ?hc15q23x72 ?rc15q23x72
                          case hc15q23x72 => (intro w hSw; (try dsimp only at hSw); obtain ⟨⟨z6, z7⟩, ⟨z0, z1⟩, ⟨z2, z3⟩, z4, z5⟩ := hSw; go_simp; try with_reducible rfl)
                          (try simp only [Act.put, lq1, lq2, lq3, lq4, lq5, lq6])
                          refine wpAnyH_done (by kernel_rfl) ?_ _
                          go_upto_region 15 with fail
                          replace PX := hidb (And.intro PX.out.1.drew PX.out.2.drew)
                          generalize W8.drew = V7 at *
                          refine wp_region_held_drew (S := (fun w' => (w'.cell? ⟨XB, 0, none⟩ = some (.int .i64 x0.1) ∧ w'.cell? ⟨XB, 1, none⟩ = some (.int .i64 x0.2)) ∧ (w'.cell? ⟨b1, u0, none⟩ = some (.int .i64 A0.1) ∧ w'.cell? ⟨b1, u0 + 1, none⟩ = some (.int .i64 A0.2)) ∧ (w'.cell? ⟨b1, u1, none⟩ = some (.int .i64 A1.1) ∧ w'.cell? ⟨b1, u1 + 1, none⟩ = some (.int .i64 A1.2)) ∧ (w'.cell? ⟨b1, u2, none⟩ = some (.int .i64 A2.1) ∧ w'.cell? ⟨b1, u2 + 1, none⟩ = some (.int .i64 A2.2)))) (by kernel_rfl) ?_ (fun hHeld => ?_)
                          · (try dsimp only); exact ⟨PX.out.1.drew.c2, HC.out _ PX.out.2.drew⟩
                          replace PX := hidb (And.intro PX.out.1.drew PX.out.2.drew)
                          generalize V7.drew = V0 at *
                          refine wt (i := 0) (v := ?vd19q0x4) rfl ?hd19q0x4 ?rd19q0x4
                          case hd19q0x4 => (intro w hSw; (try dsimp only at hSw); obtain ⟨⟨z6, z7⟩, ⟨z0, z1⟩, ⟨z2, z3⟩, z4, z5⟩ := hSw; go_simp; try with_reducible rfl)
                          (try simp only [Act.put, lq1, lq2, lq4, lq5, lq6])
                          refine wt (i := 1) (v := ?vd19q1x7) rfl ?hd19q1x7 ?rd19q1x7
                          case hd19q1x7 => (intro w hSw; (try dsimp only at hSw); obtain ⟨⟨z6, z7⟩, ⟨z0, z1⟩, ⟨z2, z3⟩, z4, z5⟩ := hSw; go_simp; try with_reducible rfl)
                          (try simp only [Act.put, lq1, lq2, lq3, lq4, lq5, lq6])
                          refine wt (i := 2) (v := ?vd19q2x10) rfl ?hd19q2x10 ?rd19q2x10
                          case hd19q2x10 => (intro w hSw; (try dsimp only at hSw); obtain ⟨⟨z6, z7⟩, ⟨z0, z1⟩, ⟨z2, z3⟩, z4, z5⟩ := hSw; go_simp; try with_reducible rfl)
                          (try simp only [Act.put, lq1, lq2, lq3, lq4, lq5, lq6])
                          refine wt (i := 3) (v := ?vd19q3x13) rfl ?hd19q3x13 ?rd19q3x13
                          case hd19q3x13 => (intro w hSw; (try dsimp only at hSw); obtain ⟨⟨z6, z7⟩, ⟨z0, z1⟩, ⟨z2, z3⟩, z4, z5⟩ := hSw; go_simp; try with_reducible rfl)
                          (try simp only [Act.put, lq1, lq2, lq3, lq4, lq5, lq6])
                          refine wt (i := 4) (v := ?vd19q4x16) rfl ?hd19q4x16 ?rd19q4x16
                          case hd19q4x16 => (intro w hSw; (try dsimp only at hSw); obtain ⟨⟨z6, z7⟩, ⟨z0, z1⟩, ⟨z2, z3⟩, z4, z5⟩ := hSw; go_simp; try with_reducible rfl)
                          (try simp only [Act.put, lq1, lq2, lq3, lq4, lq5, lq6])
                          refine wt (i := 5) (v := ?vd19q5x19) rfl ?hd19q5x19 ?rd19q5x19
                          case hd19q5x19 => (intro w hSw; (try dsimp only at hSw); obtain ⟨⟨z6, z7⟩, ⟨z0, z1⟩, ⟨z2, z3⟩, z4, z5⟩ := hSw; go_simp; try with_reducible rfl)
                          (try simp only [Act.put, lq1, lq2, lq3, lq4, lq5, lq6])
                          refine wt (i := 6) (v := ?vd19q6x22) rfl ?hd19q6x22 ?rd19q6x22
                          case hd19q6x22 => (intro w hSw; (try dsimp only at hSw); obtain ⟨⟨z6, z7⟩, ⟨z0, z1⟩, ⟨z2, z3⟩, z4, z5⟩ := hSw; go_simp; try with_reducible rfl)
                          (try simp only [Act.put, lq1, lq2, lq3, lq4, lq5, lq6])
                          refine wt (i := 7) (v := ?vd19q7x25) rfl ?hd19q7x25 ?rd19q7x25
                          case hd19q7x25 => (intro w hSw; (try dsimp only at hSw); obtain ⟨⟨z6, z7⟩, ⟨z0, z1⟩, ⟨z2, z3⟩, z4, z5⟩ := hSw; go_simp; try with_reducible rfl)
                          (try simp only [Act.put, lq1, lq2, lq3, lq4, lq5, lq6])
                          refine wt (i := 8) (v := ?vd19q8x28) rfl ?hd19q8x28 ?rd19q8x28
                          case hd19q8x28 => (intro w hSw; (try dsimp only at hSw); obtain ⟨⟨z6, z7⟩, ⟨z0, z1⟩, ⟨z2, z3⟩, z4, z5⟩ := hSw; go_simp; try with_reducible rfl)
                          (try simp only [Act.put, lq1, lq2, lq3, lq4, lq5, lq6])
                          refine wt (i := 9) (v := ?vd19q9x31) rfl ?hd19q9x31 ?rd19q9x31
                          case hd19q9x31 => (intro w hSw; (try dsimp only at hSw); obtain ⟨⟨z6, z7⟩, ⟨z0, z1⟩, ⟨z2, z3⟩, z4, z5⟩ := hSw; go_simp; try with_reducible rfl)
                          (try simp only [Act.put, lq1, lq2, lq3, lq4, lq5, lq6])
                          refine wt (i := 10) (v := ?vd19q10x34) rfl ?hd19q10x34 ?rd19q10x34
                          case hd19q10x34 => (intro w hSw; (try dsimp only at hSw); obtain ⟨⟨z6, z7⟩, ⟨z0, z1⟩, ⟨z2, z3⟩, z4, z5⟩ := hSw; go_simp; try with_reducible rfl)
                          (try simp only [Act.put, lq1, lq2, lq3, lq4, lq5, lq6])
                          refine wt (i := 11) (v := ?vd19q11x37) rfl ?hd19q11x37 ?rd19q11x37
                          case hd19q11x37 => (intro w hSw; (try dsimp only at hSw); obtain ⟨⟨z6, z7⟩, ⟨z0, z1⟩, ⟨z2, z3⟩, z4, z5⟩ := hSw; go_simp; try with_reducible rfl)
                          (try simp only [Act.put, lq1, lq2, lq3, lq4, lq5, lq6])
                          refine wt (i := 12) (v := ?vd19q12x40) rfl ?hd19q12x40 ?rd19q12x40
                          case hd19q12x40 => (intro w hSw; (try dsimp only at hSw); obtain ⟨⟨z6, z7⟩, ⟨z0, z1⟩, ⟨z2, z3⟩, z4, z5⟩ := hSw; go_simp; try with_reducible rfl)
                          (try simp only [Act.put, lq1, lq2, lq3, lq4, lq5, lq6])
                          refine wt (i := 13) (v := ?vd19q13x43) rfl ?hd19q13x43 ?rd19q13x43
                          case hd19q13x43 => (intro w hSw; (try dsimp only at hSw); obtain ⟨⟨z6, z7⟩, ⟨z0, z1⟩, ⟨z2, z3⟩, z4, z5⟩ := hSw; go_simp; try with_reducible rfl)
                          (try simp only [Act.put, lq1, lq2, lq3, lq4, lq5, lq6])
                          refine wt (i := 14) (v := ?vd19q14x46) rfl ?hd19q14x46 ?rd19q14x46
                          case hd19q14x46 => (intro w hSw; (try dsimp only at hSw); obtain ⟨⟨z6, z7⟩, ⟨z0, z1⟩, ⟨z2, z3⟩, z4, z5⟩ := hSw; go_simp; try with_reducible rfl)
                          (try simp only [Act.put, lq1, lq2, lq3, lq4, lq5, lq6])
                          refine wpAnyH_ready (rs := [15]) (by kernel_rfl) (by simp) ?_
                          refine AllReadyH.cons rfl (fun K hK => ?_) AllReadyH.nil
                          go_simp
                          go_wp2_with (go_at_call 51; refine (HIn.out _).mono ?_; rintro e V6 ⟨rfl, hB⟩)
                          refine hK.out _ _ ?_ (fun hHeld => ?_)
                          · (try dsimp only); exact ⟨(At.below hB.out PX.out.1).c2, HC.out _ (Gr.step PX.out.2 hB.out)⟩
                          clear hK K
                          replace PX := hidb (And.intro (At.below hB.out PX.out.1) (Gr.step PX.out.2 hB.out))
                          clear hB
                          refine wt (i := 16) (v := ?vd19q16x58) rfl ?hd19q16x58 ?rd19q16x58
                          case hd19q16x58 => (intro w hSw; (try dsimp only at hSw); obtain ⟨⟨z6, z7⟩, ⟨z0, z1⟩, ⟨z2, z3⟩, z4, z5⟩ := hSw; go_simp; try with_reducible rfl)
                          (try simp only [Act.put, lq1, lq2, lq3, lq4, lq5, lq6])
                          refine wpAnyH_done (by kernel_rfl) ?_ _
                          go_wp2
                          go_ret
                          exact ⟨by rw [HZ.out]; rfl, PX.out.2⟩
                        · rw [decide_eq_false c3] at HIn
                          have HZ := hidb (HMr.out (fun _ _ _ => c3))
                          clear c0 c1 c2 c3 HBad
                          refine wp_region_held_drew (S := (fun w' => (w'.cell? ⟨XB, 0, none⟩ = some (.int .i64 x0.1) ∧ w'.cell? ⟨XB, 1, none⟩ = some (.int .i64 x0.2)) ∧ (w'.cell? ⟨b1, u0, none⟩ = some (.int .i64 A0.1) ∧ w'.cell? ⟨b1, u0 + 1, none⟩ = some (.int .i64 A0.2)) ∧ (w'.cell? ⟨b1, u1, none⟩ = some (.int .i64 A1.1) ∧ w'.cell? ⟨b1, u1 + 1, none⟩ = some (.int .i64 A1.2)) ∧ (w'.cell? ⟨b1, u2, none⟩ = some (.int .i64 A2.1) ∧ w'.cell? ⟨b1, u2 + 1, none⟩ = some (.int .i64 A2.2)))) (by kernel_rfl) ?_ (fun hHeld => ?_)
                          · (try dsimp only); exact ⟨PX.out.1.drew.c2, HC.out _ PX.out.2.drew⟩
                          skip
                          refine wt (i := 0) (v := ?vc16q0x3) rfl ?hc16q0x3 ?rc16q0x3
                          case hc16q0x3 => (intro w hSw; (try dsimp only at hSw); obtain ⟨⟨z6, z7⟩, ⟨z0, z1⟩, ⟨z2, z3⟩, z4, z5⟩ := hSw; go_simp; try with_reducible rfl)
                          (try simp only [Act.put, lq1, lq2, lq4, lq5, lq6])
                          refine wt (i := 1) (v := ?vc16q1x6) rfl ?hc16q1x6 ?rc16q1x6
                          case hc16q1x6 => (intro w hSw; (try dsimp only at hSw); obtain ⟨⟨z6, z7⟩, ⟨z0, z1⟩, ⟨z2, z3⟩, z4, z5⟩ := hSw; go_simp; try with_reducible rfl)
                          (try simp only [Act.put, lq1, lq2, lq3, lq4, lq5, lq6])
                          refine wt (i := 2) (v := ?vc16q2x9) rfl ?hc16q2x9 ?rc16q2x9
                          case hc16q2x9 => (intro w hSw; (try dsimp only at hSw); obtain ⟨⟨z6, z7⟩, ⟨z0, z1⟩, ⟨z2, z3⟩, z4, z5⟩ := hSw; go_simp; try with_reducible rfl)
                          (try simp only [Act.put, lq1, lq2, lq3, lq4, lq5, lq6])
                          refine wt (i := 3) (v := ?vc16q3x12) rfl ?hc16q3x12 ?rc16q3x12
                          case hc16q3x12 => (intro w hSw; (try dsimp only at hSw); obtain ⟨⟨z6, z7⟩, ⟨z0, z1⟩, ⟨z2, z3⟩, z4, z5⟩ := hSw; go_simp; try with_reducible rfl)
                          (try simp only [Act.put, lq1, lq2, lq3, lq4, lq5, lq6])
                          refine wt (i := 4) (v := ?vc16q4x15) rfl ?hc16q4x15 ?rc16q4x15
                          case hc16q4x15 => (intro w hSw; (try dsimp only at hSw); obtain ⟨⟨z6, z7⟩, ⟨z0, z1⟩, ⟨z2, z3⟩, z4, z5⟩ := hSw; go_simp; try with_reducible rfl)
                          (try simp only [Act.put, lq1, lq2, lq3, lq4, lq5, lq6])
                          refine wt (i := 5) (v := ?vc16q5x18) rfl ?hc16q5x18 ?rc16q5x18
                          case hc16q5x18 => (intro w hSw; (try dsimp only at hSw); obtain ⟨⟨z6, z7⟩, ⟨z0, z1⟩, ⟨z2, z3⟩, z4, z5⟩ := hSw; go_simp; try with_reducible rfl)
                          (try simp only [Act.put, lq1, lq2, lq3, lq4, lq5, lq6])
                          refine wt (i := 6) (v := ?vc16q6x21) rfl ?hc16q6x21 ?rc16q6x21
                          case hc16q6x21 => (intro w hSw; (try dsimp only at hSw); obtain ⟨⟨z6, z7⟩, ⟨z0, z1⟩, ⟨z2, z3⟩, z4, z5⟩ := hSw; go_simp; try with_reducible rfl)
                          (try simp only [Act.put, lq1, lq2, lq3, lq4, lq5, lq6])
                          refine wt (i := 7) (v := ?vc16q7x24) rfl ?hc16q7x24 ?rc16q7x24
                          case hc16q7x24 => (intro w hSw; (try dsimp only at hSw); obtain ⟨⟨z6, z7⟩, ⟨z0, z1⟩, ⟨z2, z3⟩, z4, z5⟩ := hSw; go_simp; try with_reducible rfl)
                          (try simp only [Act.put, lq1, lq2, lq3, lq4, lq5, lq6])
                          refine wt (i := 8) (v := ?vc16q8x27) rfl ?hc16q8x27 ?rc16q8x27
                          case hc16q8x27 => (intro w hSw; (try dsimp only at hSw); obtain ⟨⟨z6, z7⟩, ⟨z0, z1⟩, ⟨z2, z3⟩, z4, z5⟩ := hSw; go_simp; try with_reducible rfl)
                          (try simp only [Act.put, lq1, lq2, lq3, lq4, lq5, lq6])
                          refine wt (i := 9) (v := ?vc16q9x30) rfl ?hc16q9x30 ?rc16q9x30
                          case hc16q9x30 => (intro w hSw; (try dsimp only at hSw); obtain ⟨⟨z6, z7⟩, ⟨z0, z1⟩, ⟨z2, z3⟩, z4, z5⟩ := hSw; go_simp; try with_reducible rfl)
                          (try simp only [Act.put, lq1, lq2, lq3, lq4, lq5, lq6])
                          refine wt (i := 10) (v := ?vc16q10x33) rfl ?hc16q10x33 ?rc16q10x33
                          case hc16q10x33 => (intro w hSw; (try dsimp only at hSw); obtain ⟨⟨z6, z7⟩, ⟨z0, z1⟩, ⟨z2, z3⟩, z4, z5⟩ := hSw; go_simp; try with_reducible rfl)
                          (try simp only [Act.put, lq1, lq2, lq3, lq4, lq5, lq6])
                          refine wt (i := 11) (v := ?vc16q11x36) rfl ?hc16q11x36 ?rc16q11x36
                          case hc16q11x36 => (intro w hSw; (try dsimp only at hSw); obtain ⟨⟨z6, z7⟩, ⟨z0, z1⟩, ⟨z2, z3⟩, z4, z5⟩ := hSw; go_simp; try with_reducible rfl)
                          (try simp only [Act.put, lq1, lq2, lq3, lq4, lq5, lq6])
                          refine wt (i := 12) (v := ?vc16q12x39) rfl ?hc16q12x39 ?rc16q12x39
                          case hc16q12x39 => (intro w hSw; (try dsimp only at hSw); obtain ⟨⟨z6, z7⟩, ⟨z0, z1⟩, ⟨z2, z3⟩, z4, z5⟩ := hSw; go_simp; try with_reducible rfl)
                          (try simp only [Act.put, lq1, lq2, lq3, lq4, lq5, lq6])
                          refine wt (i := 13) (v := ?vc16q13x42) rfl ?hc16q13x42 ?rc16q13x42
                          case hc16q13x42 => (intro w hSw; (try dsimp only at hSw); obtain ⟨⟨z6, z7⟩, ⟨z0, z1⟩, ⟨z2, z3⟩, z4, z5⟩ := hSw; go_simp; try with_reducible rfl)
                          (try simp only [Act.put, lq1, lq2, lq3, lq4, lq5, lq6])
                          refine wt (i := 14) (v := ?vc16q14x45) rfl ?hc16q14x45 ?rc16q14x45
                          case hc16q14x45 => (intro w hSw; (try dsimp only at hSw); obtain ⟨⟨z6, z7⟩, ⟨z0, z1⟩, ⟨z2, z3⟩, z4, z5⟩ := hSw; go_simp; try with_reducible rfl)
                          (try simp only [Act.put, lq1, lq2, lq3, lq4, lq5, lq6])
                          refine wt (i := 15) (v := ?vc16q15x48) rfl ?hc16q15x48 ?rc16q15x48
                          case hc16q15x48 => (intro w hSw; (try dsimp only at hSw); obtain ⟨⟨z6, z7⟩, ⟨z0, z1⟩, ⟨z2, z3⟩, z4, z5⟩ := hSw; go_simp; try with_reducible rfl)
                          (try simp only [Act.put, lq1, lq2, lq3, lq4, lq5, lq6])
                          refine wt (i := 16) (v := ?vc16q16x51) rfl ?hc16q16x51 ?rc16q16x51
                          case hc16q16x51 => (intro w hSw; (try dsimp only at hSw); obtain ⟨⟨z6, z7⟩, ⟨z0, z1⟩, ⟨z2, z3⟩, z4, z5⟩ := hSw; go_simp; try with_reducible rfl)
                          (try simp only [Act.put, lq1, lq2, lq3, lq4, lq5, lq6])
                          refine wt (i := 17) (v := ?vc16q17x54) rfl ?hc16q17x54 ?rc16q17x54
                          case hc16q17x54 => (intro w hSw; (try dsimp only at hSw); obtain ⟨⟨z6, z7⟩, ⟨z0, z1⟩, ⟨z2, z3⟩, z4, z5⟩ := hSw; go_simp; try with_reducible rfl)
                          (try simp only [Act.put, lq1, lq2, lq3, lq4, lq5, lq6])
                          refine wt (i := 18) (v := ?vc16q18x57) rfl ?hc16q18x57 ?rc16q18x57
                          case hc16q18x57 => (intro w hSw; (try dsimp only at hSw); obtain ⟨⟨z6, z7⟩, ⟨z0, z1⟩, ⟨z2, z3⟩, z4, z5⟩ := hSw; go_simp; try with_reducible rfl)
                          (try simp only [Act.put, lq1, lq2, lq3, lq4, lq5, lq6])
                          refine wt (i := 19) (v := ?vc16q19x60) rfl ?hc16q19x60 ?rc16q19x60
                          case hc16q19x60 => (intro w hSw; (try dsimp only at hSw); obtain ⟨⟨z6, z7⟩, ⟨z0, z1⟩, ⟨z2, z3⟩, z4, z5⟩ := hSw; go_simp; try with_reducible rfl)
                          (try simp only [Act.put, lq1, lq2, lq3, lq4, lq5, lq6])
                          refine wt (i := 20) (v := ?vc16q20x63) rfl ?hc16q20x63 ?rc16q20x63
                          case hc16q20x63 => (intro w hSw; (try dsimp only at hSw); obtain ⟨⟨z6, z7⟩, ⟨z0, z1⟩, ⟨z2, z3⟩, z4, z5⟩ := hSw; go_simp; try with_reducible rfl)
                          (try simp only [Act.put, lq1, lq2, lq3, lq4, lq5, lq6])
                          refine wt (i := 21) (v := ?vc16q21x66) rfl ?hc16q21x66 ?rc16q21x66
                          case hc16q21x66 => (intro w hSw; (try dsimp only at hSw); obtain ⟨⟨z6, z7⟩, ⟨z0, z1⟩, ⟨z2, z3⟩, z4, z5⟩ := hSw; go_simp; try with_reducible rfl)
                          (try simp only [Act.put, lq1, lq2, lq3, lq4, lq5, lq6])
                          refine wt (i := 22) (v := ?vc16q22x69) rfl ?hc16q22x69 ?rc16q22x69
                          case hc16q22x69 => (intro w hSw; (try dsimp only at hSw); obtain ⟨⟨z6, z7⟩, ⟨z0, z1⟩, ⟨z2, z3⟩, z4, z5⟩ := hSw; go_simp; try with_reducible rfl)
                          (try simp only [Act.put, lq1, lq2, lq3, lq4, lq5, lq6])
                          refine wt (i := 23) (v := ?vc16q23x72) rfl ?hc16q23x72 ?rc16q23x72
                          case hc16q23x72 => (intro w hSw; (try dsimp only at hSw); obtain ⟨⟨z6, z7⟩, ⟨z0, z1⟩, ⟨z2, z3⟩, z4, z5⟩ := hSw; go_simp; try with_reducible rfl)
                          (try simp only [Act.put, lq1, lq2, lq3, lq4, lq5, lq6])
                          refine wpAnyH_done (by kernel_rfl) ?_ _
                          go_upto_region 15 with fail
                          replace PX := hidb (And.intro PX.out.1.drew PX.out.2.drew)
                          generalize W8.drew = V7 at *
                          refine wp_region_held_drew (S := (fun w' => (w'.cell? ⟨XB, 0, none⟩ = some (.int .i64 x0.1) ∧ w'.cell? ⟨XB, 1, none⟩ = some (.int .i64 x0.2)) ∧ (w'.cell? ⟨b1, u0, none⟩ = some (.int .i64 A0.1) ∧ w'.cell? ⟨b1, u0 + 1, none⟩ = some (.int .i64 A0.2)) ∧ (w'.cell? ⟨b1, u1, none⟩ = some (.int .i64 A1.1) ∧ w'.cell? ⟨b1, u1 + 1, none⟩ = some (.int .i64 A1.2)) ∧ (w'.cell? ⟨b1, u2, none⟩ = some (.int .i64 A2.1) ∧ w'.cell? ⟨b1, u2 + 1, none⟩ = some (.int .i64 A2.2)))) (by kernel_rfl) ?_ (fun hHeld => ?_)
                          · (try dsimp only); exact ⟨PX.out.1.drew.c2, HC.out _ PX.out.2.drew⟩
                          replace PX := hidb (And.intro PX.out.1.drew PX.out.2.drew)
                          generalize V7.drew = V0 at *
                          refine wt (i := 0) (v := ?vd20q0x4) rfl ?hd20q0x4 ?rd20q0x4
                          case hd20q0x4 => (intro w hSw; (try dsimp only at hSw); obtain ⟨⟨z6, z7⟩, ⟨z0, z1⟩, ⟨z2, z3⟩, z4, z5⟩ := hSw; go_simp; try with_reducible rfl)
                          (try simp only [Act.put, lq1, lq2, lq4, lq5, lq6])
                          refine wt (i := 1) (v := ?vd20q1x7) rfl ?hd20q1x7 ?rd20q1x7
                          case hd20q1x7 => (intro w hSw; (try dsimp only at hSw); obtain ⟨⟨z6, z7⟩, ⟨z0, z1⟩, ⟨z2, z3⟩, z4, z5⟩ := hSw; go_simp; try with_reducible rfl)
                          (try simp only [Act.put, lq1, lq2, lq3, lq4, lq5, lq6])
                          refine wt (i := 2) (v := ?vd20q2x10) rfl ?hd20q2x10 ?rd20q2x10
                          case hd20q2x10 => (intro w hSw; (try dsimp only at hSw); obtain ⟨⟨z6, z7⟩, ⟨z0, z1⟩, ⟨z2, z3⟩, z4, z5⟩ := hSw; go_simp; try with_reducible rfl)
                          (try simp only [Act.put, lq1, lq2, lq3, lq4, lq5, lq6])
                          refine wt (i := 3) (v := ?vd20q3x13) rfl ?hd20q3x13 ?rd20q3x13
                          case hd20q3x13 => (intro w hSw; (try dsimp only at hSw); obtain ⟨⟨z6, z7⟩, ⟨z0, z1⟩, ⟨z2, z3⟩, z4, z5⟩ := hSw; go_simp; try with_reducible rfl)
                          (try simp only [Act.put, lq1, lq2, lq3, lq4, lq5, lq6])
                          refine wt (i := 4) (v := ?vd20q4x16) rfl ?hd20q4x16 ?rd20q4x16
                          case hd20q4x16 => (intro w hSw; (try dsimp only at hSw); obtain ⟨⟨z6, z7⟩, ⟨z0, z1⟩, ⟨z2, z3⟩, z4, z5⟩ := hSw; go_simp; try with_reducible rfl)
                          (try simp only [Act.put, lq1, lq2, lq3, lq4, lq5, lq6])
                          refine wt (i := 5) (v := ?vd20q5x19) rfl ?hd20q5x19 ?rd20q5x19
                          case hd20q5x19 => (intro w hSw; (try dsimp only at hSw); obtain ⟨⟨z6, z7⟩, ⟨z0, z1⟩, ⟨z2, z3⟩, z4, z5⟩ := hSw; go_simp; try with_reducible rfl)
                          (try simp only [Act.put, lq1, lq2, lq3, lq4, lq5, lq6])
                          refine wt (i := 6) (v := ?vd20q6x22) rfl ?hd20q6x22 ?rd20q6x22
                          case hd20q6x22 => (intro w hSw; (try dsimp only at hSw); obtain ⟨⟨z6, z7⟩, ⟨z0, z1⟩, ⟨z2, z3⟩, z4, z5⟩ := hSw; go_simp; try with_reducible rfl)
                          (try simp only [Act.put, lq1, lq2, lq3, lq4, lq5, lq6])
                          refine wt (i := 7) (v := ?vd20q7x25) rfl ?hd20q7x25 ?rd20q7x25
                          case hd20q7x25 => (intro w hSw; (try dsimp only at hSw); obtain ⟨⟨z6, z7⟩, ⟨z0, z1⟩, ⟨z2, z3⟩, z4, z5⟩ := hSw; go_simp; try with_reducible rfl)
                          (try simp only [Act.put, lq1, lq2, lq3, lq4, lq5, lq6])
                          refine wt (i := 8) (v := ?vd20q8x28) rfl ?hd20q8x28 ?rd20q8x28
                          case hd20q8x28 => (intro w hSw; (try dsimp only at hSw); obtain ⟨⟨z6, z7⟩, ⟨z0, z1⟩, ⟨z2, z3⟩, z4, z5⟩ := hSw; go_simp; try with_reducible rfl)
                          (try simp only [Act.put, lq1, lq2, lq3, lq4, lq5, lq6])
                          refine wt (i := 9) (v := ?vd20q9x31) rfl ?hd20q9x31 ?rd20q9x31
                          case hd20q9x31 => (intro w hSw; (try dsimp only at hSw); obtain ⟨⟨z6, z7⟩, ⟨z0, z1⟩, ⟨z2, z3⟩, z4, z5⟩ := hSw; go_simp; try with_reducible rfl)
                          (try simp only [Act.put, lq1, lq2, lq3, lq4, lq5, lq6])
                          refine wt (i := 10) (v := ?vd20q10x34) rfl ?hd20q10x34 ?rd20q10x34
                          case hd20q10x34 => (intro w hSw; (try dsimp only at hSw); obtain ⟨⟨z6, z7⟩, ⟨z0, z1⟩, ⟨z2, z3⟩, z4, z5⟩ := hSw; go_simp; try with_reducible rfl)
                          (try simp only [Act.put, lq1, lq2, lq3, lq4, lq5, lq6])
                          refine wt (i := 11) (v := ?vd20q11x37) rfl ?hd20q11x37 ?rd20q11x37
                          case hd20q11x37 => (intro w hSw; (try dsimp only at hSw); obtain ⟨⟨z6, z7⟩, ⟨z0, z1⟩, ⟨z2, z3⟩, z4, z5⟩ := hSw; go_simp; try with_reducible rfl)
                          (try simp only [Act.put, lq1, lq2, lq3, lq4, lq5, lq6])
                          refine wt (i := 12) (v := ?vd20q12x40) rfl ?hd20q12x40 ?rd20q12x40
                          case hd20q12x40 => (intro w hSw; (try dsimp only at hSw); obtain ⟨⟨z6, z7⟩, ⟨z0, z1⟩, ⟨z2, z3⟩, z4, z5⟩ := hSw; go_simp; try with_reducible rfl)
                          (try simp only [Act.put, lq1, lq2, lq3, lq4, lq5, lq6])
                          refine wt (i := 13) (v := ?vd20q13x43) rfl ?hd20q13x43 ?rd20q13x43
                          case hd20q13x43 => (intro w hSw; (try dsimp only at hSw); obtain ⟨⟨z6, z7⟩, ⟨z0, z1⟩, ⟨z2, z3⟩, z4, z5⟩ := hSw; go_simp; try with_reducible rfl)
                          (try simp only [Act.put, lq1, lq2, lq3, lq4, lq5, lq6])
                          refine wt (i := 14) (v := ?vd20q14x46) rfl ?hd20q14x46 ?rd20q14x46
                          case hd20q14x46 => (intro w hSw; (try dsimp only at hSw); obtain ⟨⟨z6, z7⟩, ⟨z0, z1⟩, ⟨z2, z3⟩, z4, z5⟩ := hSw; go_simp; try with_reducible rfl)
                          (try simp only [Act.put, lq1, lq2, lq3, lq4, lq5, lq6])
                          refine wpAnyH_ready (rs := [15]) (by kernel_rfl) (by simp) ?_
                          refine AllReadyH.cons rfl (fun K hK => ?_) AllReadyH.nil
                          go_simp
                          go_wp2_with (go_at_call 51; refine (HIn.out _).mono ?_; rintro e V7 ⟨rfl, hB⟩)
                          refine hK.out _ _ ?_ (fun hHeld => ?_)
                          · (try dsimp only); exact ⟨(At.below hB.out PX.out.1).c2, HC.out _ (Gr.step PX.out.2 hB.out)⟩
                          clear hK K
                          replace PX := hidb (And.intro (At.below hB.out PX.out.1) (Gr.step PX.out.2 hB.out))
                          clear hB
                          refine wt (i := 16) (v := ?vd20q16x58) rfl ?hd20q16x58 ?rd20q16x58
                          case hd20q16x58 => (intro w hSw; (try dsimp only at hSw); obtain ⟨⟨z6, z7⟩, ⟨z0, z1⟩, ⟨z2, z3⟩, z4, z5⟩ := hSw; go_simp; try with_reducible rfl)
                          (try simp only [Act.put, lq1, lq2, lq3, lq4, lq5, lq6])
                          refine wpAnyH_done (by kernel_rfl) ?_ _
                          go_wp2
                          go_roundw
                          case rel => exact ⟨j + 1, H2.out, by go_num, hidb ⟨by first | exact PX.out.2 | exact PX.out.2.drew, HZ.out⟩⟩
                          case measure => have := H2.out; simp [intOf]; omega
      · rw [decide_eq_false q3] at gz
        have HSq : Hid (((∀ j, j < N → ∀ m, m < (lx Ls j).length → okX A0 A1 A2 (sx (lx Ls j) m)) ∧ mcd (woM Ls i k) = 0 → spB most Ls i k = true) ∧ (¬ ((∀ j, j < N → ∀ m, m < (lx Ls j).length → okX A0 A1 A2 (sx (lx Ls j) m)) ∧ mcd (woM Ls i k) = 0) → spB most Ls i k = false)) :=
          ⟨fun z => HSp.out.1 ⟨by omega, fun y => q3 y.1, z⟩, fun z => HSp.out.2 (fun y => z y.2.2)⟩
        clear HSp
        go_enter Tryd.func36, Tryd.ntmps36
        have cP := HP.out _ HG.out
        have cA := HA.out _ HG.out
        go_upto_region 2 with fail
        clear cP cA
        refine wp_region_held_drew (S := (fun w' => (w'.cell? ⟨b1, u0, none⟩ = some (.int .i64 A0.1) ∧ w'.cell? ⟨b1, u0 + 1, none⟩ = some (.int .i64 A0.2)) ∧ (w'.cell? ⟨b1, u1, none⟩ = some (.int .i64 A1.1) ∧ w'.cell? ⟨b1, u1 + 1, none⟩ = some (.int .i64 A1.2)) ∧ (w'.cell? ⟨b1, u2, none⟩ = some (.int .i64 A2.1) ∧ w'.cell? ⟨b1, u2 + 1, none⟩ = some (.int .i64 A2.2)))) (by kernel_rfl) ?_ (fun hHeld => ?_)
        · (try dsimp only); exact HC.out _ HG.out.drew
        replace HG := hidb HG.out.drew
        generalize w.drew = V0 at *
        refine wt (i := 0) (v := ?va5q0x4) rfl ?ha5q0x4 ?ra5q0x4
        case ha5q0x4 => (intro w hSw; (try dsimp only at hSw); obtain ⟨⟨z0, z1⟩, ⟨z2, z3⟩, z4, z5⟩ := hSw; go_simp; try with_reducible rfl)
        (try simp only [Act.put, lq1, lq2, lq4, lq5, lq6])
        refine wt (i := 1) (v := ?va5q1x7) rfl ?ha5q1x7 ?ra5q1x7
        case ha5q1x7 => (intro w hSw; (try dsimp only at hSw); obtain ⟨⟨z0, z1⟩, ⟨z2, z3⟩, z4, z5⟩ := hSw; go_simp; try with_reducible rfl)
        (try simp only [Act.put, lq1, lq2, lq3, lq4, lq5, lq6])
        refine wt (i := 2) (v := ?va5q2x10) rfl ?ha5q2x10 ?ra5q2x10
        case ha5q2x10 => (intro w hSw; (try dsimp only at hSw); obtain ⟨⟨z0, z1⟩, ⟨z2, z3⟩, z4, z5⟩ := hSw; go_simp; try with_reducible rfl)
        (try simp only [Act.put, lq1, lq2, lq3, lq4, lq5, lq6])
        refine wt (i := 3) (v := ?va5q3x13) rfl ?ha5q3x13 ?ra5q3x13
        case ha5q3x13 => (intro w hSw; (try dsimp only at hSw); obtain ⟨⟨z0, z1⟩, ⟨z2, z3⟩, z4, z5⟩ := hSw; go_simp; try with_reducible rfl)
        (try simp only [Act.put, lq1, lq2, lq3, lq4, lq5, lq6])
        refine wt (i := 4) (v := ?va5q4x16) rfl ?ha5q4x16 ?ra5q4x16
        case ha5q4x16 => (intro w hSw; (try dsimp only at hSw); obtain ⟨⟨z0, z1⟩, ⟨z2, z3⟩, z4, z5⟩ := hSw; go_simp; try with_reducible rfl)
        (try simp only [Act.put, lq1, lq2, lq3, lq4, lq5, lq6])
        refine wt (i := 5) (v := ?va5q5x19) rfl ?ha5q5x19 ?ra5q5x19
        case ha5q5x19 => (intro w hSw; (try dsimp only at hSw); obtain ⟨⟨z0, z1⟩, ⟨z2, z3⟩, z4, z5⟩ := hSw; go_simp; try with_reducible rfl)
        (try simp only [Act.put, lq1, lq2, lq3, lq4, lq5, lq6])
        refine wt (i := 6) (v := ?va5q6x22) rfl ?ha5q6x22 ?ra5q6x22
        case ha5q6x22 => (intro w hSw; (try dsimp only at hSw); obtain ⟨⟨z0, z1⟩, ⟨z2, z3⟩, z4, z5⟩ := hSw; go_simp; try with_reducible rfl)
        (try simp only [Act.put, lq1, lq2, lq3, lq4, lq5, lq6])
        refine wt (i := 7) (v := ?va5q7x25) rfl ?ha5q7x25 ?ra5q7x25
        case ha5q7x25 => (intro w hSw; (try dsimp only at hSw); obtain ⟨⟨z0, z1⟩, ⟨z2, z3⟩, z4, z5⟩ := hSw; go_simp; try with_reducible rfl)
        (try simp only [Act.put, lq1, lq2, lq3, lq4, lq5, lq6])
        refine wt (i := 8) (v := ?va5q8x28) rfl ?ha5q8x28 ?ra5q8x28
        case ha5q8x28 => (intro w hSw; (try dsimp only at hSw); obtain ⟨⟨z0, z1⟩, ⟨z2, z3⟩, z4, z5⟩ := hSw; go_simp; try with_reducible rfl)
        (try simp only [Act.put, lq1, lq2, lq3, lq4, lq5, lq6])
        refine wt (i := 9) (v := ?va5q9x31) rfl ?ha5q9x31 ?ra5q9x31
        case ha5q9x31 => (intro w hSw; (try dsimp only at hSw); obtain ⟨⟨z0, z1⟩, ⟨z2, z3⟩, z4, z5⟩ := hSw; go_simp; try with_reducible rfl)
        (try simp only [Act.put, lq1, lq2, lq3, lq4, lq5, lq6])
        refine wt (i := 10) (v := ?va5q10x34) rfl ?ha5q10x34 ?ra5q10x34
        case ha5q10x34 => (intro w hSw; (try dsimp only at hSw); obtain ⟨⟨z0, z1⟩, ⟨z2, z3⟩, z4, z5⟩ := hSw; go_simp; try with_reducible rfl)
        (try simp only [Act.put, lq1, lq2, lq3, lq4, lq5, lq6])
        refine wt (i := 11) (v := ?va5q11x37) rfl ?ha5q11x37 ?ra5q11x37
        case ha5q11x37 => (intro w hSw; (try dsimp only at hSw); obtain ⟨⟨z0, z1⟩, ⟨z2, z3⟩, z4, z5⟩ := hSw; go_simp; try with_reducible rfl)
        (try simp only [Act.put, lq1, lq2, lq3, lq4, lq5, lq6])
        refine wt (i := 12) (v := ?va5q12x40) rfl ?ha5q12x40 ?ra5q12x40
        case ha5q12x40 => (intro w hSw; (try dsimp only at hSw); obtain ⟨⟨z0, z1⟩, ⟨z2, z3⟩, z4, z5⟩ := hSw; go_simp; try with_reducible rfl)
        (try simp only [Act.put, lq1, lq2, lq3, lq4, lq5, lq6])
        refine wt (i := 13) (v := ?va5q13x43) rfl ?ha5q13x43 ?ra5q13x43
        case ha5q13x43 => (intro w hSw; (try dsimp only at hSw); obtain ⟨⟨z0, z1⟩, ⟨z2, z3⟩, z4, z5⟩ := hSw; go_simp; try with_reducible rfl)
        (try simp only [Act.put, lq1, lq2, lq3, lq4, lq5, lq6])
        refine wpAnyH_ready (rs := [14]) (by kernel_rfl) (by simp) ?_
        refine AllReadyH.cons rfl (fun K hK => ?_) AllReadyH.nil
        go_simp
        go_wp2_with (go_at_call 32; refine (HT.out _).mono ?_; rintro e V5 ⟨rfl, hB⟩)
        refine hK.out _ _ ?_ (fun hHeld => ?_)
        · (try dsimp only); exact HC.out _ (Gr.step HG.out hB.out)
        clear hK K
        replace HG := hidb (Gr.step HG.out hB.out)
        clear hB
        refine wt (i := 15) (v := ?va5q15x55) rfl ?ha5q15x55 ?ra5q15x55
        case ha5q15x55 => (intro w hSw; (try dsimp only at hSw); obtain ⟨⟨z0, z1⟩, ⟨z2, z3⟩, z4, z5⟩ := hSw; go_simp; try with_reducible rfl)
        (try simp only [Act.put, lq1, lq2, lq3, lq4, lq5, lq6])
        refine wpAnyH_done (by kernel_rfl) ?_ _
        go_upto_region 5 with fail
        refine wp_region_held_drew (S := (fun w' => (w'.cell? ⟨b1, o1, none⟩ = some (.int .i64 Az.1) ∧ w'.cell? ⟨b1, o1 + 1, none⟩ = some (.int .i64 Az.2)) ∧ (w'.cell? ⟨b1, ul, none⟩ = some (.int .i64 Al.1) ∧ w'.cell? ⟨b1, ul + 1, none⟩ = some (.int .i64 Al.2)))) (by kernel_rfl) ?_ (fun hHeld => ?_)
        · (try dsimp only); exact HD.out _ HG.out.drew
        replace HG := hidb HG.out.drew
        refine wt (i := 0) (v := ?vb8q0x3) rfl ?hb8q0x3 ?rb8q0x3
        case hb8q0x3 => (intro w hSw; (try dsimp only at hSw); obtain ⟨⟨z0, z1⟩, z2, z3⟩ := hSw; go_simp; try with_reducible rfl)
        (try simp only [Act.put, lq1, lq2, lq4, lq5, lq6])
        refine wt (i := 1) (v := ?vb8q1x6) rfl ?hb8q1x6 ?rb8q1x6
        case hb8q1x6 => (intro w hSw; (try dsimp only at hSw); obtain ⟨⟨z0, z1⟩, z2, z3⟩ := hSw; go_simp; try with_reducible rfl)
        (try simp only [Act.put, lq1, lq2, lq3, lq4, lq5, lq6])
        refine wt (i := 2) (v := ?vb8q2x9) rfl ?hb8q2x9 ?rb8q2x9
        case hb8q2x9 => (intro w hSw; (try dsimp only at hSw); obtain ⟨⟨z0, z1⟩, z2, z3⟩ := hSw; go_simp; try with_reducible rfl)
        (try simp only [Act.put, lq1, lq2, lq3, lq4, lq5, lq6])
        refine wt (i := 3) (v := ?vb8q3x12) rfl ?hb8q3x12 ?rb8q3x12
        case hb8q3x12 => (intro w hSw; (try dsimp only at hSw); obtain ⟨⟨z0, z1⟩, z2, z3⟩ := hSw; go_simp; try with_reducible rfl)
        (try simp only [Act.put, lq1, lq2, lq3, lq4, lq5, lq6])
        refine wt (i := 4) (v := ?vb8q4x15) rfl ?hb8q4x15 ?rb8q4x15
        case hb8q4x15 => (intro w hSw; (try dsimp only at hSw); obtain ⟨⟨z0, z1⟩, z2, z3⟩ := hSw; go_simp; try with_reducible rfl)
        (try simp only [Act.put, lq1, lq2, lq3, lq4, lq5, lq6])
        refine wt (i := 5) (v := ?vb8q5x18) rfl ?hb8q5x18 ?rb8q5x18
        case hb8q5x18 => (intro w hSw; (try dsimp only at hSw); obtain ⟨⟨z0, z1⟩, z2, z3⟩ := hSw; go_simp; try with_reducible rfl)
        (try simp only [Act.put, lq1, lq2, lq3, lq4, lq5, lq6])
        refine wt (i := 6) (v := ?vb8q6x21) rfl ?hb8q6x21 ?rb8q6x21
        case hb8q6x21 => (intro w hSw; (try dsimp only at hSw); obtain ⟨⟨z0, z1⟩, z2, z3⟩ := hSw; go_simp; try with_reducible rfl)
        (try simp only [Act.put, lq1, lq2, lq3, lq4, lq5, lq6])
        refine wt (i := 7) (v := ?vb8q7x24) rfl ?hb8q7x24 ?rb8q7x24
        case hb8q7x24 => (intro w hSw; (try dsimp only at hSw); obtain ⟨⟨z0, z1⟩, z2, z3⟩ := hSw; go_simp; try with_reducible rfl)
        (try simp only [Act.put, lq1, lq2, lq3, lq4, lq5, lq6])
        refine wt (i := 8) (v := ?vb8q8x27) rfl ?hb8q8x27 ?rb8q8x27
        case hb8q8x27 => (intro w hSw; (try dsimp only at hSw); obtain ⟨⟨z0, z1⟩, z2, z3⟩ := hSw; go_simp; try with_reducible rfl)
        (try simp only [Act.put, lq1, lq2, lq3, lq4, lq5, lq6])
        refine wt (i := 9) (v := ?vb8q9x30) rfl ?hb8q9x30 ?rb8q9x30
        case hb8q9x30 => (intro w hSw; (try dsimp only at hSw); obtain ⟨⟨z0, z1⟩, z2, z3⟩ := hSw; go_simp; try with_reducible rfl)
        (try simp only [Act.put, lq1, lq2, lq3, lq4, lq5, lq6])
        refine wt (i := 10) (v := ?vb8q10x33) rfl ?hb8q10x33 ?rb8q10x33
        case hb8q10x33 => (intro w hSw; (try dsimp only at hSw); obtain ⟨⟨z0, z1⟩, z2, z3⟩ := hSw; go_simp; try with_reducible rfl)
        (try simp only [Act.put, lq1, lq2, lq3, lq4, lq5, lq6])
        refine wu (i := 11) rfl ?_
        (try simp only [Act.put, lq1, lq2, lq3, lq4, lq5, lq6])
        refine wu (i := 12) rfl ?_
        (try simp only [Act.put, lq1, lq2, lq3, lq4, lq5, lq6])
        refine wu (i := 13) rfl ?_
        (try simp only [Act.put, lq1, lq2, lq3, lq4, lq5, lq6])
        refine wt (i := 14) (v := ?vb8q14x42) rfl ?hb8q14x42 ?rb8q14x42
        case hb8q14x42 => (intro w hSw; (try dsimp only at hSw); obtain ⟨⟨z0, z1⟩, z2, z3⟩ := hSw; go_simp; try with_reducible rfl)
        (try simp only [Act.put, lq1, lq2, lq3, lq4, lq5, lq6])
        refine wpAnyH_done (by kernel_rfl) ?_ _
        go_wp2
        clear gz
        go_loopw [11] (fun t wr => ∃ x : Nat, x ≤ N ∧ t = .int .i64 (x : Int) ∧ Hid (Gr w wr ∧ ∀ j, j < x → ∀ m, m < (lx Ls j).length → okX A0 A1 A2 (sx (lx Ls j) m))) (fun t _ => N - (intOf t).toNat)
        case atStart => exact ⟨0, Nat.zero_le _, rfl, hidb ⟨HG.out, fun j hj => by omega⟩⟩
        case round =>
          clear HG
          obtain ⟨x, hx, rfl, E⟩ := hrel
          have cP := HP.out _ E.out.1
          by_cases h1 : ¬ x < N
          · have h1' : ¬ (x : Int) < (N : Int) := by omega
            have HAll := hidb (show ∀ j, j < N → ∀ m, m < (lx Ls j).length → okX A0 A1 A2 (sx (lx Ls j) m) from fun j hj => E.out.2 j (by omega))
            have HG := hidb E.out.1
            clear h1 E
            go_wp2_with (go_at_call 37; refine (HWo.out _ HG.out).mono ?_; rintro e w5 ⟨ob, ad', b', cap', rfl, hp5, hL5, hB5⟩; replace HG := hidb (Gr.step HG.out hB5.out))
            go_wp2_with (go_at_call 8; refine (HMe.out _ _ _ _ _ _ hp5 hL5).mono ?_; rintro e w6 ⟨rfl, hB6⟩; replace HG := hidb (Gr.step HG.out hB6.out))
            by_cases hz : mcd (woM Ls i k) = 0
            · have q9 : ((mcd (woM Ls i k) : Int) == 0) = true := by rw [hz]; rfl
              go_wp2
              go_ret
              exact ⟨by rw [HSq.out.1 ⟨HAll.out, hz⟩, q9]; rfl, HG.out⟩
            · have q9 : ((mcd (woM Ls i k) : Int) == 0) = false := by simp; omega
              go_wp2
              go_ret
              exact ⟨by rw [HSq.out.2 (fun z => hz z.2), q9]; rfl, HG.out⟩
          · have h1' : (x : Int) < (N : Int) := by omega
            have H1 := hidb (show x < N by omega)
            have hxL : x < Ls.length := by rw [← HN.out]; exact H1.out
            have e1 : IntKind.i64.wrap ((x : Int) + 1) = ((x + 1 : Nat) : Int) := by rw [show (x : Int) + 1 = ((x + 1 : Nat) : Int) by omega]; exact wr_in (by omega) (by have := HNb.out; have := HN.out; omega)
            obtain ⟨⟨a3, b3, o3, c3, y0w, y1, hS3⟩, yb⟩ := HLd.out.row x hxL
            have HCx : Hid (∀ W, Gr w W → W.cell? ⟨b, o + x, none⟩ = some (.slice a3 (lx Ls x).length c3)) := fun W hG => (hG.out.cell (p := ⟨b, o + x, none⟩) yb).trans y0w
            have ix : ∀ w, (Instr.indexAt 30 (.slice ad N cap) (.int .i64 (x : Int))).run Tryd.prog w = .ok (.pointer (some ⟨b, o + x, none⟩)) w := by
              have := HLd.out.ix x hxL
              rw [← HN.out] at this
              exact this
            have HS3 := hidb (fun W (hG : Gr w W) => hS3.gr hG)
            have HSx3 := hidb hS3.ix
            have HLx := hidb (HLb.out x hxL)
            have HX3 := hidb (HX.out x hxL)
            obtain ⟨Q, hQ⟩ : ∃ z, z = lx Ls x := ⟨_, rfl⟩
            have HQ := hidb hQ
            rw [← hQ] at HCx HS3 HSx3 HLx HX3
            obtain ⟨L3, hL3⟩ : ∃ z, z = Q.length := ⟨_, rfl⟩
            have HQl := hidb hL3
            rw [← hL3] at HCx HSx3 HLx
            have HPv := hidb E.out.2
            have E0 : Hid (Gr w wr ∧ ∀ m, m < 0 → okX A0 A1 A2 (sx Q m)) := ⟨E.out.1, fun m hm => by omega⟩
            clear h1 hxL y0w y1 hS3 yb hQ hL3 E
            go_wp2
            clear cP
            go_loopw [12] (fun t wx => ∃ j : Nat, j ≤ L3 ∧ t = .int .i64 (j : Int) ∧ Hid (Gr w wx ∧ ∀ m, m < j → okX A0 A1 A2 (sx Q m))) (fun t _ => L3 - (intOf t).toNat)
            case atStart => exact ⟨0, Nat.zero_le _, rfl, E0⟩
            case round =>
              clear E0
              obtain ⟨j, hj, rfl, E⟩ := hrel
              have cP := HP.out _ E.out.1
              have cX := HCx.out _ E.out.1
              by_cases h2 : ¬ j < L3
              · have h2' : ¬ (j : Int) < (L3 : Int) := by omega
                have HE : Hid (Gr w wr ∧ ∀ j, j < x + 1 → ∀ m, m < (lx Ls j).length → okX A0 A1 A2 (sx (lx Ls j) m)) := by
                  refine ⟨E.out.1, fun j' hj' m hm => ?_⟩
                  rcases Nat.lt_succ_iff_lt_or_eq.1 hj' with c | c
                  · exact HPv.out j' c m hm
                  · subst c
                    rw [← HQ.out] at hm ⊢
                    exact E.out.2 m (by have := HQl.out; omega)
                clear h2 E
                go_wp2
                go_roundw
                case rel => exact ⟨x + 1, H1.out, by go_num, HE⟩
                case measure => have := H1.out; simp [intOf]; omega
              · have h2' : (j : Int) < (L3 : Int) := by omega
                have H2 := hidb (show j < L3 by omega)
                have hjQ : j < Q.length := by rw [← HQl.out]; exact H2.out
                have e2 : IntKind.i64.wrap ((j : Int) + 1) = ((j + 1 : Nat) : Int) := by rw [show (j : Int) + 1 = ((j + 1 : Nat) : Int) by omega]; exact wr_in (by omega) (by have := HLx.out; omega)
                obtain ⟨⟨s0, s1⟩, -⟩ := (HS3.out _ E.out.1).row j hjQ
                have ixs := HSx3.out j H2.out
                have HIn := hidb (HX3.out j hjQ)
                have HMr : Hid (okX A0 A1 A2 (sx Q j) → ∀ m, m < j + 1 → okX A0 A1 A2 (sx Q m)) := fun z m hm => by
                  rcases Nat.lt_succ_iff_lt_or_eq.1 hm with c | c
                  · exact E.out.2 m c
                  · rw [c]; exact z
                have HBad : Hid (¬ okX A0 A1 A2 (sx Q j) → ¬ ((∀ j, j < N → ∀ m, m < (lx Ls j).length → okX A0 A1 A2 (sx (lx Ls j) m)) ∧ mcd (woM Ls i k) = 0)) := fun z y => z (by have := y.1 x H1.out j (by rw [← HQ.out]; exact hjQ); rw [← HQ.out] at this; exact this)
                have HG := hidb E.out.1
                obtain ⟨x0, hx0⟩ : ∃ z, z = sx Q j := ⟨_, rfl⟩
                rw [← hx0] at s0 s1 HIn HMr HBad
                clear h2 E hjQ hx0
                go_upto_region 14 with fail
                have PX : Hid (At (wr.alloc (.cells #[.int .i64 x0.1, .int .i64 x0.2] 52)) wr.heap.size [.int .i64 x0.1, .int .i64 x0.2] ∧ Gr w (wr.alloc (.cells #[.int .i64 x0.1, .int .i64 x0.2] 52))) := ⟨At.new2 _ _ _ _, HG.out.alloc _⟩
                generalize wr.alloc (.cells #[.int .i64 x0.1, .int .i64 x0.2] 52) = W8 at *
                generalize wr.heap.size = XB at *
                have t0 := HGs.out.1 x0
                have t1 := HGs.out.2.1 x0
                have t2 := HGs.out.2.2 x0
                clear s0 s1 cP cX HG
                by_cases c0 : x0 = A0
                · rw [decide_eq_true c0] at t0
                  have HZ := hidb (HMr.out (fun z => absurd c0 z))
                  clear c0 t1 t2 HBad
                  refine wp_region_held_drew (S := (fun w' => (w'.cell? ⟨XB, 0, none⟩ = some (.int .i64 x0.1) ∧ w'.cell? ⟨XB, 1, none⟩ = some (.int .i64 x0.2)) ∧ (w'.cell? ⟨b1, u0, none⟩ = some (.int .i64 A0.1) ∧ w'.cell? ⟨b1, u0 + 1, none⟩ = some (.int .i64 A0.2)) ∧ (w'.cell? ⟨b1, u1, none⟩ = some (.int .i64 A1.1) ∧ w'.cell? ⟨b1, u1 + 1, none⟩ = some (.int .i64 A1.2)) ∧ (w'.cell? ⟨b1, u2, none⟩ = some (.int .i64 A2.1) ∧ w'.cell? ⟨b1, u2 + 1, none⟩ = some (.int .i64 A2.2)))) (by kernel_rfl) ?_ (fun hHeld => ?_)
                  · (try dsimp only); exact ⟨PX.out.1.drew.c2, HC.out _ PX.out.2.drew⟩
                  skip
                  refine wt (i := 0) (v := ?vc10q0x3) rfl ?hc10q0x3 ?rc10q0x3
                  case hc10q0x3 => (intro w hSw; (try dsimp only at hSw); obtain ⟨⟨z6, z7⟩, ⟨z0, z1⟩, ⟨z2, z3⟩, z4, z5⟩ := hSw; go_simp; try with_reducible rfl)
                  (try simp only [Act.put, lq1, lq2, lq4, lq5, lq6])
                  refine wt (i := 1) (v := ?vc10q1x6) rfl ?hc10q1x6 ?rc10q1x6
                  case hc10q1x6 => (intro w hSw; (try dsimp only at hSw); obtain ⟨⟨z6, z7⟩, ⟨z0, z1⟩, ⟨z2, z3⟩, z4, z5⟩ := hSw; go_simp; try with_reducible rfl)
                  (try simp only [Act.put, lq1, lq2, lq3, lq4, lq5, lq6])
                  refine wt (i := 2) (v := ?vc10q2x9) rfl ?hc10q2x9 ?rc10q2x9
                  case hc10q2x9 => (intro w hSw; (try dsimp only at hSw); obtain ⟨⟨z6, z7⟩, ⟨z0, z1⟩, ⟨z2, z3⟩, z4, z5⟩ := hSw; go_simp; try with_reducible rfl)
                  (try simp only [Act.put, lq1, lq2, lq3, lq4, lq5, lq6])
                  refine wt (i := 3) (v := ?vc10q3x12) rfl ?hc10q3x12 ?rc10q3x12
                  case hc10q3x12 => (intro w hSw; (try dsimp only at hSw); obtain ⟨⟨z6, z7⟩, ⟨z0, z1⟩, ⟨z2, z3⟩, z4, z5⟩ := hSw; go_simp; try with_reducible rfl)
                  (try simp only [Act.put, lq1, lq2, lq3, lq4, lq5, lq6])
                  refine wt (i := 4) (v := ?vc10q4x15) rfl ?hc10q4x15 ?rc10q4x15
                  case hc10q4x15 => (intro w hSw; (try dsimp only at hSw); obtain ⟨⟨z6, z7⟩, ⟨z0, z1⟩, ⟨z2, z3⟩, z4, z5⟩ := hSw; go_simp; try with_reducible rfl)
                  (try simp only [Act.put, lq1, lq2, lq3, lq4, lq5, lq6])
                  refine wt (i := 5) (v := ?vc10q5x18) rfl ?hc10q5x18 ?rc10q5x18
                  case hc10q5x18 => (intro w hSw; (try dsimp only at hSw); obtain ⟨⟨z6, z7⟩, ⟨z0, z1⟩, ⟨z2, z3⟩, z4, z5⟩ := hSw; go_simp; try with_reducible rfl)
                  (try simp only [Act.put, lq1, lq2, lq3, lq4, lq5, lq6])
                  refine wt (i := 6) (v := ?vc10q6x21) rfl ?hc10q6x21 ?rc10q6x21
                  case hc10q6x21 => (intro w hSw; (try dsimp only at hSw); obtain ⟨⟨z6, z7⟩, ⟨z0, z1⟩, ⟨z2, z3⟩, z4, z5⟩ := hSw; go_simp; try with_reducible rfl)
                  (try simp only [Act.put, lq1, lq2, lq3, lq4, lq5, lq6])
                  refine wt (i := 7) (v := ?vc10q7x24) rfl ?hc10q7x24 ?rc10q7x24
                  case hc10q7x24 => (intro w hSw; (try dsimp only at hSw); obtain ⟨⟨z6, z7⟩, ⟨z0, z1⟩, ⟨z2, z3⟩, z4, z5⟩ := hSw; go_simp; try with_reducible rfl)
                  (try simp only [Act.put, lq1, lq2, lq3, lq4, lq5, lq6])
                  refine wu (i := 8) rfl ?_
                  (try simp only [Act.put, lq1, lq2, lq3, lq4, lq5, lq6])
                  refine wu (i := 9) rfl ?_
                  (try simp only [Act.put, lq1, lq2, lq3, lq4, lq5, lq6])
                  refine wu (i := 10) rfl ?_
                  (try simp only [Act.put, lq1, lq2, lq3, lq4, lq5, lq6])
                  refine wu (i := 11) rfl ?_
                  (try simp only [Act.put, lq1, lq2, lq3, lq4, lq5, lq6])
                  refine wu (i := 12) rfl ?_
                  (try simp only [Act.put, lq1, lq2, lq3, lq4, lq5, lq6])
                  refine wu (i := 13) rfl ?_
                  (try simp only [Act.put, lq1, lq2, lq3, lq4, lq5, lq6])
                  refine wt (i := 14) (v := ?vc10q14x39) rfl ?hc10q14x39 ?rc10q14x39
                  case hc10q14x39 => (intro w hSw; (try dsimp only at hSw); obtain ⟨⟨z6, z7⟩, ⟨z0, z1⟩, ⟨z2, z3⟩, z4, z5⟩ := hSw; go_simp; try with_reducible rfl)
                  (try simp only [Act.put, lq1, lq2, lq3, lq4, lq5, lq6])
                  refine wt (i := 15) (v := ?vc10q15x42) rfl ?hc10q15x42 ?rc10q15x42
                  case hc10q15x42 => (intro w hSw; (try dsimp only at hSw); obtain ⟨⟨z6, z7⟩, ⟨z0, z1⟩, ⟨z2, z3⟩, z4, z5⟩ := hSw; go_simp; try with_reducible rfl)
                  (try simp only [Act.put, lq1, lq2, lq3, lq4, lq5, lq6])
                  refine wu (i := 16) rfl ?_
                  (try simp only [Act.put, lq1, lq2, lq3, lq4, lq5, lq6])
                  refine wu (i := 17) rfl ?_
                  (try simp only [Act.put, lq1, lq2, lq3, lq4, lq5, lq6])
                  refine wu (i := 18) rfl ?_
                  (try simp only [Act.put, lq1, lq2, lq3, lq4, lq5, lq6])
                  refine wu (i := 19) rfl ?_
                  (try simp only [Act.put, lq1, lq2, lq3, lq4, lq5, lq6])
                  refine wu (i := 20) rfl ?_
                  (try simp only [Act.put, lq1, lq2, lq3, lq4, lq5, lq6])
                  refine wu (i := 21) rfl ?_
                  (try simp only [Act.put, lq1, lq2, lq3, lq4, lq5, lq6])
                  refine wu (i := 22) rfl ?_
                  (try simp only [Act.put, lq1, lq2, lq3, lq4, lq5, lq6])
                  refine wt (i := 23) (v := ?vc10q23x59) rfl ?hc10q23x59 ?rc10q23x59
                  case hc10q23x59 => (intro w hSw; (try dsimp only at hSw); obtain ⟨⟨z6, z7⟩, ⟨z0, z1⟩, ⟨z2, z3⟩, z4, z5⟩ := hSw; go_simp; try with_reducible rfl)
                  (try simp only [Act.put, lq1, lq2, lq3, lq4, lq5, lq6])
                  refine wpAnyH_done (by kernel_rfl) ?_ _
                  go_wp2
                  go_roundw
                  case rel => exact ⟨j + 1, H2.out, by go_num, hidb ⟨by first | exact PX.out.2 | exact PX.out.2.drew, HZ.out⟩⟩
                  case measure => have := H2.out; simp [intOf]; omega
                · rw [decide_eq_false c0] at t0
                  by_cases c1 : x0 = A1
                  · rw [decide_eq_true c1] at t1
                    have HZ := hidb (HMr.out (fun _ z => absurd c1 z))
                    clear c0 c1 t2 HBad
                    refine wp_region_held_drew (S := (fun w' => (w'.cell? ⟨XB, 0, none⟩ = some (.int .i64 x0.1) ∧ w'.cell? ⟨XB, 1, none⟩ = some (.int .i64 x0.2)) ∧ (w'.cell? ⟨b1, u0, none⟩ = some (.int .i64 A0.1) ∧ w'.cell? ⟨b1, u0 + 1, none⟩ = some (.int .i64 A0.2)) ∧ (w'.cell? ⟨b1, u1, none⟩ = some (.int .i64 A1.1) ∧ w'.cell? ⟨b1, u1 + 1, none⟩ = some (.int .i64 A1.2)) ∧ (w'.cell? ⟨b1, u2, none⟩ = some (.int .i64 A2.1) ∧ w'.cell? ⟨b1, u2 + 1, none⟩ = some (.int .i64 A2.2)))) (by kernel_rfl) ?_ (fun hHeld => ?_)
                    · (try dsimp only); exact ⟨PX.out.1.drew.c2, HC.out _ PX.out.2.drew⟩
                    skip
                    refine wt (i := 0) (v := ?vc12q0x3) rfl ?hc12q0x3 ?rc12q0x3
                    case hc12q0x3 => (intro w hSw; (try dsimp only at hSw); obtain ⟨⟨z6, z7⟩, ⟨z0, z1⟩, ⟨z2, z3⟩, z4, z5⟩ := hSw; go_simp; try with_reducible rfl)
                    (try simp only [Act.put, lq1, lq2, lq4, lq5, lq6])
                    refine wt (i := 1) (v := ?vc12q1x6) rfl ?hc12q1x6 ?rc12q1x6
                    case hc12q1x6 => (intro w hSw; (try dsimp only at hSw); obtain ⟨⟨z6, z7⟩, ⟨z0, z1⟩, ⟨z2, z3⟩, z4, z5⟩ := hSw; go_simp; try with_reducible rfl)
                    (try simp only [Act.put, lq1, lq2, lq3, lq4, lq5, lq6])
                    refine wt (i := 2) (v := ?vc12q2x9) rfl ?hc12q2x9 ?rc12q2x9
                    case hc12q2x9 => (intro w hSw; (try dsimp only at hSw); obtain ⟨⟨z6, z7⟩, ⟨z0, z1⟩, ⟨z2, z3⟩, z4, z5⟩ := hSw; go_simp; try with_reducible rfl)
                    (try simp only [Act.put, lq1, lq2, lq3, lq4, lq5, lq6])
                    refine wt (i := 3) (v := ?vc12q3x12) rfl ?hc12q3x12 ?rc12q3x12
                    case hc12q3x12 => (intro w hSw; (try dsimp only at hSw); obtain ⟨⟨z6, z7⟩, ⟨z0, z1⟩, ⟨z2, z3⟩, z4, z5⟩ := hSw; go_simp; try with_reducible rfl)
                    (try simp only [Act.put, lq1, lq2, lq3, lq4, lq5, lq6])
                    refine wt (i := 4) (v := ?vc12q4x15) rfl ?hc12q4x15 ?rc12q4x15
                    case hc12q4x15 => (intro w hSw; (try dsimp only at hSw); obtain ⟨⟨z6, z7⟩, ⟨z0, z1⟩, ⟨z2, z3⟩, z4, z5⟩ := hSw; go_simp; try with_reducible rfl)
                    (try simp only [Act.put, lq1, lq2, lq3, lq4, lq5, lq6])
                    refine wt (i := 5) (v := ?vc12q5x18) rfl ?hc12q5x18 ?rc12q5x18
                    case hc12q5x18 => (intro w hSw; (try dsimp only at hSw); obtain ⟨⟨z6, z7⟩, ⟨z0, z1⟩, ⟨z2, z3⟩, z4, z5⟩ := hSw; go_simp; try with_reducible rfl)
                    (try simp only [Act.put, lq1, lq2, lq3, lq4, lq5, lq6])
                    refine wt (i := 6) (v := ?vc12q6x21) rfl ?hc12q6x21 ?rc12q6x21
                    case hc12q6x21 => (intro w hSw; (try dsimp only at hSw); obtain ⟨⟨z6, z7⟩, ⟨z0, z1⟩, ⟨z2, z3⟩, z4, z5⟩ := hSw; go_simp; try with_reducible rfl)
                    (try simp only [Act.put, lq1, lq2, lq3, lq4, lq5, lq6])
                    refine wt (i := 7) (v := ?vc12q7x24) rfl ?hc12q7x24 ?rc12q7x24
                    case hc12q7x24 => (intro w hSw; (try dsimp only at hSw); obtain ⟨⟨z6, z7⟩, ⟨z0, z1⟩, ⟨z2, z3⟩, z4, z5⟩ := hSw; go_simp; try with_reducible rfl)
                    (try simp only [Act.put, lq1, lq2, lq3, lq4, lq5, lq6])
                    refine wt (i := 8) (v := ?vc12q8x27) rfl ?hc12q8x27 ?rc12q8x27
                    case hc12q8x27 => (intro w hSw; (try dsimp only at hSw); obtain ⟨⟨z6, z7⟩, ⟨z0, z1⟩, ⟨z2, z3⟩, z4, z5⟩ := hSw; go_simp; try with_reducible rfl)
                    (try simp only [Act.put, lq1, lq2, lq3, lq4, lq5, lq6])
                    refine wt (i := 9) (v := ?vc12q9x30) rfl ?hc12q9x30 ?rc12q9x30
                    case hc12q9x30 => (intro w hSw; (try dsimp only at hSw); obtain ⟨⟨z6, z7⟩, ⟨z0, z1⟩, ⟨z2, z3⟩, z4, z5⟩ := hSw; go_simp; try with_reducible rfl)
                    (try simp only [Act.put, lq1, lq2, lq3, lq4, lq5, lq6])
                    refine wt (i := 10) (v := ?vc12q10x33) rfl ?hc12q10x33 ?rc12q10x33
                    case hc12q10x33 => (intro w hSw; (try dsimp only at hSw); obtain ⟨⟨z6, z7⟩, ⟨z0, z1⟩, ⟨z2, z3⟩, z4, z5⟩ := hSw; go_simp; try with_reducible rfl)
                    (try simp only [Act.put, lq1, lq2, lq3, lq4, lq5, lq6])
                    refine wt (i := 11) (v := ?vc12q11x36) rfl ?hc12q11x36 ?rc12q11x36
                    case hc12q11x36 => (intro w hSw; (try dsimp only at hSw); obtain ⟨⟨z6, z7⟩, ⟨z0, z1⟩, ⟨z2, z3⟩, z4, z5⟩ := hSw; go_simp; try with_reducible rfl)
                    (try simp only [Act.put, lq1, lq2, lq3, lq4, lq5, lq6])
                    refine wt (i := 12) (v := ?vc12q12x39) rfl ?hc12q12x39 ?rc12q12x39
                    case hc12q12x39 => (intro w hSw; (try dsimp only at hSw); obtain ⟨⟨z6, z7⟩, ⟨z0, z1⟩, ⟨z2, z3⟩, z4, z5⟩ := hSw; go_simp; try with_reducible rfl)
                    (try simp only [Act.put, lq1, lq2, lq3, lq4, lq5, lq6])
                    refine wt (i := 13) (v := ?vc12q13x42) rfl ?hc12q13x42 ?rc12q13x42
                    case hc12q13x42 => (intro w hSw; (try dsimp only at hSw); obtain ⟨⟨z6, z7⟩, ⟨z0, z1⟩, ⟨z2, z3⟩, z4, z5⟩ := hSw; go_simp; try with_reducible rfl)
                    (try simp only [Act.put, lq1, lq2, lq3, lq4, lq5, lq6])
                    refine wt (i := 14) (v := ?vc12q14x45) rfl ?hc12q14x45 ?rc12q14x45
                    case hc12q14x45 => (intro w hSw; (try dsimp only at hSw); obtain ⟨⟨z6, z7⟩, ⟨z0, z1⟩, ⟨z2, z3⟩, z4, z5⟩ := hSw; go_simp; try with_reducible rfl)
                    (try simp only [Act.put, lq1, lq2, lq3, lq4, lq5, lq6])
                    refine wt (i := 15) (v := ?vc12q15x48) rfl ?hc12q15x48 ?rc12q15x48
                    case hc12q15x48 => (intro w hSw; (try dsimp only at hSw); obtain ⟨⟨z6, z7⟩, ⟨z0, z1⟩, ⟨z2, z3⟩, z4, z5⟩ := hSw; go_simp; try with_reducible rfl)
                    (try simp only [Act.put, lq1, lq2, lq3, lq4, lq5, lq6])
                    refine wu (i := 16) rfl ?_
                    (try simp only [Act.put, lq1, lq2, lq3, lq4, lq5, lq6])
                    refine wu (i := 17) rfl ?_
                    (try simp only [Act.put, lq1, lq2, lq3, lq4, lq5, lq6])
                    refine wu (i := 18) rfl ?_
                    (try simp only [Act.put, lq1, lq2, lq3, lq4, lq5, lq6])
                    refine wu (i := 19) rfl ?_
                    (try simp only [Act.put, lq1, lq2, lq3, lq4, lq5, lq6])
                    refine wu (i := 20) rfl ?_
                    (try simp only [Act.put, lq1, lq2, lq3, lq4, lq5, lq6])
                    refine wu (i := 21) rfl ?_
                    (try simp only [Act.put, lq1, lq2, lq3, lq4, lq5, lq6])
                    refine wu (i := 22) rfl ?_
                    (try simp only [Act.put, lq1, lq2, lq3, lq4, lq5, lq6])
                    refine wt (i := 23) (v := ?vc12q23x65) rfl ?hc12q23x65 ?rc12q23x65
                    case hc12q23x65 => (intro w hSw; (try dsimp only at hSw); obtain ⟨⟨z6, z7⟩, ⟨z0, z1⟩, ⟨z2, z3⟩, z4, z5⟩ := hSw; go_simp; try with_reducible rfl)
                    (try simp only [Act.put, lq1, lq2, lq3, lq4, lq5, lq6])
                    refine wpAnyH_done (by kernel_rfl) ?_ _
                    go_wp2
                    go_roundw
                    case rel => exact ⟨j + 1, H2.out, by go_num, hidb ⟨by first | exact PX.out.2 | exact PX.out.2.drew, HZ.out⟩⟩
                    case measure => have := H2.out; simp [intOf]; omega
                  · rw [decide_eq_false c1] at t1
                    by_cases c2 : x0 = A2
                    · rw [decide_eq_true c2] at t2
                      have HZ := hidb (HMr.out (fun _ _ z => absurd c2 z))
                      clear c0 c1 c2 HBad
                      refine wp_region_held_drew (S := (fun w' => (w'.cell? ⟨XB, 0, none⟩ = some (.int .i64 x0.1) ∧ w'.cell? ⟨XB, 1, none⟩ = some (.int .i64 x0.2)) ∧ (w'.cell? ⟨b1, u0, none⟩ = some (.int .i64 A0.1) ∧ w'.cell? ⟨b1, u0 + 1, none⟩ = some (.int .i64 A0.2)) ∧ (w'.cell? ⟨b1, u1, none⟩ = some (.int .i64 A1.1) ∧ w'.cell? ⟨b1, u1 + 1, none⟩ = some (.int .i64 A1.2)) ∧ (w'.cell? ⟨b1, u2, none⟩ = some (.int .i64 A2.1) ∧ w'.cell? ⟨b1, u2 + 1, none⟩ = some (.int .i64 A2.2)))) (by kernel_rfl) ?_ (fun hHeld => ?_)
                      · (try dsimp only); exact ⟨PX.out.1.drew.c2, HC.out _ PX.out.2.drew⟩
                      skip
                      refine wt (i := 0) (v := ?vc14q0x3) rfl ?hc14q0x3 ?rc14q0x3
                      case hc14q0x3 => (intro w hSw; (try dsimp only at hSw); obtain ⟨⟨z6, z7⟩, ⟨z0, z1⟩, ⟨z2, z3⟩, z4, z5⟩ := hSw; go_simp; try with_reducible rfl)
                      (try simp only [Act.put, lq1, lq2, lq4, lq5, lq6])
                      refine wt (i := 1) (v := ?vc14q1x6) rfl ?hc14q1x6 ?rc14q1x6
                      case hc14q1x6 => (intro w hSw; (try dsimp only at hSw); obtain ⟨⟨z6, z7⟩, ⟨z0, z1⟩, ⟨z2, z3⟩, z4, z5⟩ := hSw; go_simp; try with_reducible rfl)
                      (try simp only [Act.put, lq1, lq2, lq3, lq4, lq5, lq6])
                      refine wt (i := 2) (v := ?vc14q2x9) rfl ?hc14q2x9 ?rc14q2x9
                      case hc14q2x9 => (intro w hSw; (try dsimp only at hSw); obtain ⟨⟨z6, z7⟩, ⟨z0, z1⟩, ⟨z2, z3⟩, z4, z5⟩ := hSw; go_simp; try with_reducible rfl)
                      (try simp only [Act.put, lq1, lq2, lq3, lq4, lq5, lq6])
                      refine wt (i := 3) (v := ?vc14q3x12) rfl ?hc14q3x12 ?rc14q3x12
                      case hc14q3x12 => (intro w hSw; (try dsimp only at hSw); obtain ⟨⟨z6, z7⟩, ⟨z0, z1⟩, ⟨z2, z3⟩, z4, z5⟩ := hSw; go_simp; try with_reducible rfl)
                      (try simp only [Act.put, lq1, lq2, lq3, lq4, lq5, lq6])
                      refine wt (i := 4) (v := ?vc14q4x15) rfl ?hc14q4x15 ?rc14q4x15
                      case hc14q4x15 => (intro w hSw; (try dsimp only at hSw); obtain ⟨⟨z6, z7⟩, ⟨z0, z1⟩, ⟨z2, z3⟩, z4, z5⟩ := hSw; go_simp; try with_reducible rfl)
                      (try simp only [Act.put, lq1, lq2, lq3, lq4, lq5, lq6])
                      refine wt (i := 5) (v := ?vc14q5x18) rfl ?hc14q5x18 ?rc14q5x18
                      case hc14q5x18 => (intro w hSw; (try dsimp only at hSw); obtain ⟨⟨z6, z7⟩, ⟨z0, z1⟩, ⟨z2, z3⟩, z4, z5⟩ := hSw; go_simp; try with_reducible rfl)
                      (try simp only [Act.put, lq1, lq2, lq3, lq4, lq5, lq6])
                      refine wt (i := 6) (v := ?vc14q6x21) rfl ?hc14q6x21 ?rc14q6x21
                      case hc14q6x21 => (intro w hSw; (try dsimp only at hSw); obtain ⟨⟨z6, z7⟩, ⟨z0, z1⟩, ⟨z2, z3⟩, z4, z5⟩ := hSw; go_simp; try with_reducible rfl)
                      (try simp only [Act.put, lq1, lq2, lq3, lq4, lq5, lq6])
                      refine wt (i := 7) (v := ?vc14q7x24) rfl ?hc14q7x24 ?rc14q7x24
                      case hc14q7x24 => (intro w hSw; (try dsimp only at hSw); obtain ⟨⟨z6, z7⟩, ⟨z0, z1⟩, ⟨z2, z3⟩, z4, z5⟩ := hSw; go_simp; try with_reducible rfl)
                      (try simp only [Act.put, lq1, lq2, lq3, lq4, lq5, lq6])
                      refine wt (i := 8) (v := ?vc14q8x27) rfl ?hc14q8x27 ?rc14q8x27
                      case hc14q8x27 => (intro w hSw; (try dsimp only at hSw); obtain ⟨⟨z6, z7⟩, ⟨z0, z1⟩, ⟨z2, z3⟩, z4, z5⟩ := hSw; go_simp; try with_reducible rfl)
                      (try simp only [Act.put, lq1, lq2, lq3, lq4, lq5, lq6])
                      refine wt (i := 9) (v := ?vc14q9x30) rfl ?hc14q9x30 ?rc14q9x30
                      case hc14q9x30 => (intro w hSw; (try dsimp only at hSw); obtain ⟨⟨z6, z7⟩, ⟨z0, z1⟩, ⟨z2, z3⟩, z4, z5⟩ := hSw; go_simp; try with_reducible rfl)
                      (try simp only [Act.put, lq1, lq2, lq3, lq4, lq5, lq6])
                      refine wt (i := 10) (v := ?vc14q10x33) rfl ?hc14q10x33 ?rc14q10x33
                      case hc14q10x33 => (intro w hSw; (try dsimp only at hSw); obtain ⟨⟨z6, z7⟩, ⟨z0, z1⟩, ⟨z2, z3⟩, z4, z5⟩ := hSw; go_simp; try with_reducible rfl)
                      (try simp only [Act.put, lq1, lq2, lq3, lq4, lq5, lq6])
                      refine wt (i := 11) (v := ?vc14q11x36) rfl ?hc14q11x36 ?rc14q11x36
                      case hc14q11x36 => (intro w hSw; (try dsimp only at hSw); obtain ⟨⟨z6, z7⟩, ⟨z0, z1⟩, ⟨z2, z3⟩, z4, z5⟩ := hSw; go_simp; try with_reducible rfl)
                      (try simp only [Act.put, lq1, lq2, lq3, lq4, lq5, lq6])
                      refine wt (i := 12) (v := ?vc14q12x39) rfl ?hc14q12x39 ?rc14q12x39
                      case hc14q12x39 => (intro w hSw; (try dsimp only at hSw); obtain ⟨⟨z6, z7⟩, ⟨z0, z1⟩, ⟨z2, z3⟩, z4, z5⟩ := hSw; go_simp; try with_reducible rfl)
                      (try simp only [Act.put, lq1, lq2, lq3, lq4, lq5, lq6])
                      refine wt (i := 13) (v := ?vc14q13x42) rfl ?hc14q13x42 ?rc14q13x42
                      case hc14q13x42 => (intro w hSw; (try dsimp only at hSw); obtain ⟨⟨z6, z7⟩, ⟨z0, z1⟩, ⟨z2, z3⟩, z4, z5⟩ := hSw; go_simp; try with_reducible rfl)
                      (try simp only [Act.put, lq1, lq2, lq3, lq4, lq5, lq6])
                      refine wt (i := 14) (v := ?vc14q14x45) rfl ?hc14q14x45 ?rc14q14x45
                      case hc14q14x45 => (intro w hSw; (try dsimp only at hSw); obtain ⟨⟨z6, z7⟩, ⟨z0, z1⟩, ⟨z2, z3⟩, z4, z5⟩ := hSw; go_simp; try with_reducible rfl)
                      (try simp only [Act.put, lq1, lq2, lq3, lq4, lq5, lq6])
                      refine wt (i := 15) (v := ?vc14q15x48) rfl ?hc14q15x48 ?rc14q15x48
                      case hc14q15x48 => (intro w hSw; (try dsimp only at hSw); obtain ⟨⟨z6, z7⟩, ⟨z0, z1⟩, ⟨z2, z3⟩, z4, z5⟩ := hSw; go_simp; try with_reducible rfl)
                      (try simp only [Act.put, lq1, lq2, lq3, lq4, lq5, lq6])
                      refine wt (i := 16) (v := ?vc14q16x51) rfl ?hc14q16x51 ?rc14q16x51
                      case hc14q16x51 => (intro w hSw; (try dsimp only at hSw); obtain ⟨⟨z6, z7⟩, ⟨z0, z1⟩, ⟨z2, z3⟩, z4, z5⟩ := hSw; go_simp; try with_reducible rfl)
                      (try simp only [Act.put, lq1, lq2, lq3, lq4, lq5, lq6])
                      refine wt (i := 17) (v := ?vc14q17x54) rfl ?hc14q17x54 ?rc14q17x54
                      case hc14q17x54 => (intro w hSw; (try dsimp only at hSw); obtain ⟨⟨z6, z7⟩, ⟨z0, z1⟩, ⟨z2, z3⟩, z4, z5⟩ := hSw; go_simp; try with_reducible rfl)
                      (try simp only [Act.put, lq1, lq2, lq3, lq4, lq5, lq6])
                      refine wt (i := 18) (v := ?vc14q18x57) rfl ?hc14q18x57 ?rc14q18x57
                      case hc14q18x57 => (intro w hSw; (try dsimp only at hSw); obtain ⟨⟨z6, z7⟩, ⟨z0, z1⟩, ⟨z2, z3⟩, z4, z5⟩ := hSw; go_simp; try with_reducible rfl)
                      (try simp only [Act.put, lq1, lq2, lq3, lq4, lq5, lq6])
                      refine wt (i := 19) (v := ?vc14q19x60) rfl ?hc14q19x60 ?rc14q19x60
                      case hc14q19x60 => (intro w hSw; (try dsimp only at hSw); obtain ⟨⟨z6, z7⟩, ⟨z0, z1⟩, ⟨z2, z3⟩, z4, z5⟩ := hSw; go_simp; try with_reducible rfl)
                      (try simp only [Act.put, lq1, lq2, lq3, lq4, lq5, lq6])
                      refine wt (i := 20) (v := ?vc14q20x63) rfl ?hc14q20x63 ?rc14q20x63
                      case hc14q20x63 => (intro w hSw; (try dsimp only at hSw); obtain ⟨⟨z6, z7⟩, ⟨z0, z1⟩, ⟨z2, z3⟩, z4, z5⟩ := hSw; go_simp; try with_reducible rfl)
                      (try simp only [Act.put, lq1, lq2, lq3, lq4, lq5, lq6])
                      refine wt (i := 21) (v := ?vc14q21x66) rfl ?hc14q21x66 ?rc14q21x66
                      case hc14q21x66 => (intro w hSw; (try dsimp only at hSw); obtain ⟨⟨z6, z7⟩, ⟨z0, z1⟩, ⟨z2, z3⟩, z4, z5⟩ := hSw; go_simp; try with_reducible rfl)
                      (try simp only [Act.put, lq1, lq2, lq3, lq4, lq5, lq6])
                      refine wt (i := 22) (v := ?vc14q22x69) rfl ?hc14q22x69 ?rc14q22x69
                      case hc14q22x69 => (intro w hSw; (try dsimp only at hSw); obtain ⟨⟨z6, z7⟩, ⟨z0, z1⟩, ⟨z2, z3⟩, z4, z5⟩ := hSw; go_simp; try with_reducible rfl)
                      (try simp only [Act.put, lq1, lq2, lq3, lq4, lq5, lq6])
                      refine wt (i := 23) (v := ?vc14q23x72) rfl ?hc14q23x72 ?rc14q23x72
                      case hc14q23x72 => (intro w hSw; (try dsimp only at hSw); obtain ⟨⟨z6, z7⟩, ⟨z0, z1⟩, ⟨z2, z3⟩, z4, z5⟩ := hSw; go_simp; try with_reducible rfl)
                      (try simp only [Act.put, lq1, lq2, lq3, lq4, lq5, lq6])
                      refine wpAnyH_done (by kernel_rfl) ?_ _
                      go_wp2
                      go_roundw
                      case rel => exact ⟨j + 1, H2.out, by go_num, hidb ⟨by first | exact PX.out.2 | exact PX.out.2.drew, HZ.out⟩⟩
                      case measure => have := H2.out; simp [intOf]; omega
                    · rw [decide_eq_false c2] at t2
                      by_cases c3 : rfP A0 A1 A2 x0
                      · rw [decide_eq_true c3] at HIn
                        have HZ := hidb (HSq.out.2 (HBad.out (fun z => z c0 c1 c2 c3)))
                        clear c0 c1 c2 c3 HMr
                        refine wp_region_held_drew (S := (fun w' => (w'.cell? ⟨XB, 0, none⟩ = some (.int .i64 x0.1) ∧ w'.cell? ⟨XB, 1, none⟩ = some (.int .i64 x0.2)) ∧ (w'.cell? ⟨b1, u0, none⟩ = some (.int .i64 A0.1) ∧ w'.cell? ⟨b1, u0 + 1, none⟩ = some (.int .i64 A0.2)) ∧ (w'.cell? ⟨b1, u1, none⟩ = some (.int .i64 A1.1) ∧ w'.cell? ⟨b1, u1 + 1, none⟩ = some (.int .i64 A1.2)) ∧ (w'.cell? ⟨b1, u2, none⟩ = some (.int .i64 A2.1) ∧ w'.cell? ⟨b1, u2 + 1, none⟩ = some (.int .i64 A2.2)))) (by kernel_rfl) ?_ (fun hHeld => ?_)
                        · (try dsimp only); exact ⟨PX.out.1.drew.c2, HC.out _ PX.out.2.drew⟩
                        skip
                        refine wt (i := 0) (v := ?vc17q0x3) rfl ?hc17q0x3 ?rc17q0x3
                        case hc17q0x3 => (intro w hSw; (try dsimp only at hSw); obtain ⟨⟨z6, z7⟩, ⟨z0, z1⟩, ⟨z2, z3⟩, z4, z5⟩ := hSw; go_simp; try with_reducible rfl)
                        (try simp only [Act.put, lq1, lq2, lq4, lq5, lq6])
                        refine wt (i := 1) (v := ?vc17q1x6) rfl ?hc17q1x6 ?rc17q1x6
                        case hc17q1x6 => (intro w hSw; (try dsimp only at hSw); obtain ⟨⟨z6, z7⟩, ⟨z0, z1⟩, ⟨z2, z3⟩, z4, z5⟩ := hSw; go_simp; try with_reducible rfl)
                        (try simp only [Act.put, lq1, lq2, lq3, lq4, lq5, lq6])
                        refine wt (i := 2) (v := ?vc17q2x9) rfl ?hc17q2x9 ?rc17q2x9
                        case hc17q2x9 => (intro w hSw; (try dsimp only at hSw); obtain ⟨⟨z6, z7⟩, ⟨z0, z1⟩, ⟨z2, z3⟩, z4, z5⟩ := hSw; go_simp; try with_reducible rfl)
                        (try simp only [Act.put, lq1, lq2, lq3, lq4, lq5, lq6])
                        refine wt (i := 3) (v := ?vc17q3x12) rfl ?hc17q3x12 ?rc17q3x12
                        case hc17q3x12 => (intro w hSw; (try dsimp only at hSw); obtain ⟨⟨z6, z7⟩, ⟨z0, z1⟩, ⟨z2, z3⟩, z4, z5⟩ := hSw; go_simp; try with_reducible rfl)
                        (try simp only [Act.put, lq1, lq2, lq3, lq4, lq5, lq6])
                        refine wt (i := 4) (v := ?vc17q4x15) rfl ?hc17q4x15 ?rc17q4x15
                        case hc17q4x15 => (intro w hSw; (try dsimp only at hSw); obtain ⟨⟨z6, z7⟩, ⟨z0, z1⟩, ⟨z2, z3⟩, z4, z5⟩ := hSw; go_simp; try with_reducible rfl)
                        (try simp only [Act.put, lq1, lq2, lq3, lq4, lq5, lq6])
                        refine wt (i := 5) (v := ?vc17q5x18) rfl ?hc17q5x18 ?rc17q5x18
                        case hc17q5x18 => (intro w hSw; (try dsimp only at hSw); obtain ⟨⟨z6, z7⟩, ⟨z0, z1⟩, ⟨z2, z3⟩, z4, z5⟩ := hSw; go_simp; try with_reducible rfl)
                        (try simp only [Act.put, lq1, lq2, lq3, lq4, lq5, lq6])
                        refine wt (i := 6) (v := ?vc17q6x21) rfl ?hc17q6x21 ?rc17q6x21
                        case hc17q6x21 => (intro w hSw; (try dsimp only at hSw); obtain ⟨⟨z6, z7⟩, ⟨z0, z1⟩, ⟨z2, z3⟩, z4, z5⟩ := hSw; go_simp; try with_reducible rfl)
                        (try simp only [Act.put, lq1, lq2, lq3, lq4, lq5, lq6])
                        refine wt (i := 7) (v := ?vc17q7x24) rfl ?hc17q7x24 ?rc17q7x24
                        case hc17q7x24 => (intro w hSw; (try dsimp only at hSw); obtain ⟨⟨z6, z7⟩, ⟨z0, z1⟩, ⟨z2, z3⟩, z4, z5⟩ := hSw; go_simp; try with_reducible rfl)
                        (try simp only [Act.put, lq1, lq2, lq3, lq4, lq5, lq6])
                        refine wt (i := 8) (v := ?vc17q8x27) rfl ?hc17q8x27 ?rc17q8x27
                        case hc17q8x27 => (intro w hSw; (try dsimp only at hSw); obtain ⟨⟨z6, z7⟩, ⟨z0, z1⟩, ⟨z2, z3⟩, z4, z5⟩ := hSw; go_simp; try with_reducible rfl)
                        (try simp only [Act.put, lq1, lq2, lq3, lq4, lq5, lq6])
                        refine wt (i := 9) (v := ?vc17q9x30) rfl ?hc17q9x30 ?rc17q9x30
                        case hc17q9x30 => (intro w hSw; (try dsimp only at hSw); obtain ⟨⟨z6, z7⟩, ⟨z0, z1⟩, ⟨z2, z3⟩, z4, z5⟩ := hSw; go_simp; try with_reducible rfl)
                        (try simp only [Act.put, lq1, lq2, lq3, lq4, lq5, lq6])
                        refine wt (i := 10) (v := ?vc17q10x33) rfl ?hc17q10x33 ?rc17q10x33
                        case hc17q10x33 => (intro w hSw; (try dsimp only at hSw); obtain ⟨⟨z6, z7⟩, ⟨z0, z1⟩, ⟨z2, z3⟩, z4, z5⟩ := hSw; go_simp; try with_reducible rfl)
                        (try simp only [Act.put, lq1, lq2, lq3, lq4, lq5, lq6])
                        refine wt (i := 11) (v := ?vc17q11x36) rfl ?hc17q11x36 ?rc17q11x36
                        case hc17q11x36 => (intro w hSw; (try dsimp only at hSw); obtain ⟨⟨z6, z7⟩, ⟨z0, z1⟩, ⟨z2, z3⟩, z4, z5⟩ := hSw; go_simp; try with_reducible rfl)
                        (try simp only [Act.put, lq1, lq2, lq3, lq4, lq5, lq6])
                        refine wt (i := 12) (v := ?vc17q12x39) rfl ?hc17q12x39 ?rc17q12x39
                        case hc17q12x39 => (intro w hSw; (try dsimp only at hSw); obtain ⟨⟨z6, z7⟩, ⟨z0, z1⟩, ⟨z2, z3⟩, z4, z5⟩ := hSw; go_simp; try with_reducible rfl)
                        (try simp only [Act.put, lq1, lq2, lq3, lq4, lq5, lq6])
                        refine wt (i := 13) (v := ?vc17q13x42) rfl ?hc17q13x42 ?rc17q13x42
                        case hc17q13x42 => (intro w hSw; (try dsimp only at hSw); obtain ⟨⟨z6, z7⟩, ⟨z0, z1⟩, ⟨z2, z3⟩, z4, z5⟩ := hSw; go_simp; try with_reducible rfl)
                        (try simp only [Act.put, lq1, lq2, lq3, lq4, lq5, lq6])
                        refine wt (i := 14) (v := ?vc17q14x45) rfl ?hc17q14x45 ?rc17q14x45
                        case hc17q14x45 => (intro w hSw; (try dsimp only at hSw); obtain ⟨⟨z6, z7⟩, ⟨z0, z1⟩, ⟨z2, z3⟩, z4, z5⟩ := hSw; go_simp; try with_reducible rfl)
                        (try simp only [Act.put, lq1, lq2, lq3, lq4, lq5, lq6])
                        refine wt (i := 15) (v := ?vc17q15x48) rfl ?hc17q15x48 ?rc17q15x48
                        case hc17q15x48 => (intro w hSw; (try dsimp only at hSw); obtain ⟨⟨z6, z7⟩, ⟨z0, z1⟩, ⟨z2, z3⟩, z4, z5⟩ := hSw; go_simp; try with_reducible rfl)
                        (try simp only [Act.put, lq1, lq2, lq3, lq4, lq5, lq6])
                        refine wt (i := 16) (v := ?vc17q16x51) rfl ?hc17q16x51 ?rc17q16x51
                        case hc17q16x51 => (intro w hSw; (try dsimp only at hSw); obtain ⟨⟨z6, z7⟩, ⟨z0, z1⟩, ⟨z2, z3⟩, z4, z5⟩ := hSw; go_simp; try with_reducible rfl)
                        (try simp only [Act.put, lq1, lq2, lq3, lq4, lq5, lq6])
                        refine wt (i := 17) (v := ?vc17q17x54) rfl ?hc17q17x54 ?rc17q17x54
                        case hc17q17x54 => (intro w hSw; (try dsimp only at hSw); obtain ⟨⟨z6, z7⟩, ⟨z0, z1⟩, ⟨z2, z3⟩, z4, z5⟩ := hSw; go_simp; try with_reducible rfl)
                        (try simp only [Act.put, lq1, lq2, lq3, lq4, lq5, lq6])
                        refine wt (i := 18) (v := ?vc17q18x57) rfl ?hc17q18x57 ?rc17q18x57
                        case hc17q18x57 => (intro w hSw; (try dsimp only at hSw); obtain ⟨⟨z6, z7⟩, ⟨z0, z1⟩, ⟨z2, z3⟩, z4, z5⟩ := hSw; go_simp; try with_reducible rfl)
                        (try simp only [Act.put, lq1, lq2, lq3, lq4, lq5, lq6])
                        refine wt (i := 19) (v := ?vc17q19x60) rfl ?hc17q19x60 ?rc17q19x60
                        case hc17q19x60 => (intro w hSw; (try dsimp only at hSw); obtain ⟨⟨z6, z7⟩, ⟨z0, z1⟩, ⟨z2, z3⟩, z4, z5⟩ := hSw; go_simp; try with_reducible rfl)
                        (try simp only [Act.put, lq1, lq2, lq3, lq4, lq5, lq6])
                        refine wt (i := 20) (v := ?vc17q20x63) rfl ?hc17q20x63 ?rc17q20x63
                        case hc17q20x63 => (intro w hSw; (try dsimp only at hSw); obtain ⟨⟨z6, z7⟩, ⟨z0, z1⟩, ⟨z2, z3⟩, z4, z5⟩ := hSw; go_simp; try with_reducible rfl)
                        (try simp only [Act.put, lq1, lq2, lq3, lq4, lq5, lq6])
                        refine wt (i := 21) (v := ?vc17q21x66) rfl ?hc17q21x66 ?rc17q21x66
                        case hc17q21x66 => (intro w hSw; (try dsimp only at hSw); obtain ⟨⟨z6, z7⟩, ⟨z0, z1⟩, ⟨z2, z3⟩, z4, z5⟩ := hSw; go_simp; try with_reducible rfl)
                        (try simp only [Act.put, lq1, lq2, lq3, lq4, lq5, lq6])
                        refine wt (i := 22) (v := ?vc17q22x69) rfl ?hc17q22x69 ?rc17q22x69
                        case hc17q22x69 => (intro w hSw; (try dsimp only at hSw); obtain ⟨⟨z6, z7⟩, ⟨z0, z1⟩, ⟨z2, z3⟩, z4, z5⟩ := hSw; go_simp; try with_reducible rfl)
                        (try simp only [Act.put, lq1, lq2, lq3, lq4, lq5, lq6])
                        refine wt (i := 23) (v := ?vc17q23x72) rfl ?hc17q23x72 ?rc17q23x72
                        case hc17q23x72 => (intro w hSw; (try dsimp only at hSw); obtain ⟨⟨z6, z7⟩, ⟨z0, z1⟩, ⟨z2, z3⟩, z4, z5⟩ := hSw; go_simp; try with_reducible rfl)
                        (try simp only [Act.put, lq1, lq2, lq3, lq4, lq5, lq6])
                        refine wpAnyH_done (by kernel_rfl) ?_ _
                        go_upto_region 15 with fail
                        replace PX := hidb (And.intro PX.out.1.drew PX.out.2.drew)
                        generalize W8.drew = V7 at *
                        refine wp_region_held_drew (S := (fun w' => (w'.cell? ⟨XB, 0, none⟩ = some (.int .i64 x0.1) ∧ w'.cell? ⟨XB, 1, none⟩ = some (.int .i64 x0.2)) ∧ (w'.cell? ⟨b1, u0, none⟩ = some (.int .i64 A0.1) ∧ w'.cell? ⟨b1, u0 + 1, none⟩ = some (.int .i64 A0.2)) ∧ (w'.cell? ⟨b1, u1, none⟩ = some (.int .i64 A1.1) ∧ w'.cell? ⟨b1, u1 + 1, none⟩ = some (.int .i64 A1.2)) ∧ (w'.cell? ⟨b1, u2, none⟩ = some (.int .i64 A2.1) ∧ w'.cell? ⟨b1, u2 + 1, none⟩ = some (.int .i64 A2.2)))) (by kernel_rfl) ?_ (fun hHeld => ?_)
                        · (try dsimp only); exact ⟨PX.out.1.drew.c2, HC.out _ PX.out.2.drew⟩
                        replace PX := hidb (And.intro PX.out.1.drew PX.out.2.drew)
                        generalize V7.drew = V0 at *
                        refine wt (i := 0) (v := ?vd21q0x4) rfl ?hd21q0x4 ?rd21q0x4
                        case hd21q0x4 => (intro w hSw; (try dsimp only at hSw); obtain ⟨⟨z6, z7⟩, ⟨z0, z1⟩, ⟨z2, z3⟩, z4, z5⟩ := hSw; go_simp; try with_reducible rfl)
                        (try simp only [Act.put, lq1, lq2, lq4, lq5, lq6])
                        refine wt (i := 1) (v := ?vd21q1x7) rfl ?hd21q1x7 ?rd21q1x7
                        case hd21q1x7 => (intro w hSw; (try dsimp only at hSw); obtain ⟨⟨z6, z7⟩, ⟨z0, z1⟩, ⟨z2, z3⟩, z4, z5⟩ := hSw; go_simp; try with_reducible rfl)
                        (try simp only [Act.put, lq1, lq2, lq3, lq4, lq5, lq6])
                        refine wt (i := 2) (v := ?vd21q2x10) rfl ?hd21q2x10 ?rd21q2x10
                        case hd21q2x10 => (intro w hSw; (try dsimp only at hSw); obtain ⟨⟨z6, z7⟩, ⟨z0, z1⟩, ⟨z2, z3⟩, z4, z5⟩ := hSw; go_simp; try with_reducible rfl)
                        (try simp only [Act.put, lq1, lq2, lq3, lq4, lq5, lq6])
                        refine wt (i := 3) (v := ?vd21q3x13) rfl ?hd21q3x13 ?rd21q3x13
                        case hd21q3x13 => (intro w hSw; (try dsimp only at hSw); obtain ⟨⟨z6, z7⟩, ⟨z0, z1⟩, ⟨z2, z3⟩, z4, z5⟩ := hSw; go_simp; try with_reducible rfl)
                        (try simp only [Act.put, lq1, lq2, lq3, lq4, lq5, lq6])
                        refine wt (i := 4) (v := ?vd21q4x16) rfl ?hd21q4x16 ?rd21q4x16
                        case hd21q4x16 => (intro w hSw; (try dsimp only at hSw); obtain ⟨⟨z6, z7⟩, ⟨z0, z1⟩, ⟨z2, z3⟩, z4, z5⟩ := hSw; go_simp; try with_reducible rfl)
                        (try simp only [Act.put, lq1, lq2, lq3, lq4, lq5, lq6])
                        refine wt (i := 5) (v := ?vd21q5x19) rfl ?hd21q5x19 ?rd21q5x19
                        case hd21q5x19 => (intro w hSw; (try dsimp only at hSw); obtain ⟨⟨z6, z7⟩, ⟨z0, z1⟩, ⟨z2, z3⟩, z4, z5⟩ := hSw; go_simp; try with_reducible rfl)
                        (try simp only [Act.put, lq1, lq2, lq3, lq4, lq5, lq6])
                        refine wt (i := 6) (v := ?vd21q6x22) rfl ?hd21q6x22 ?rd21q6x22
                        case hd21q6x22 => (intro w hSw; (try dsimp only at hSw); obtain ⟨⟨z6, z7⟩, ⟨z0, z1⟩, ⟨z2, z3⟩, z4, z5⟩ := hSw; go_simp; try with_reducible rfl)
                        (try simp only [Act.put, lq1, lq2, lq3, lq4, lq5, lq6])
                        refine wt (i := 7) (v := ?vd21q7x25) rfl ?hd21q7x25 ?rd21q7x25
                        case hd21q7x25 => (intro w hSw; (try dsimp only at hSw); obtain ⟨⟨z6, z7⟩, ⟨z0, z1⟩, ⟨z2, z3⟩, z4, z5⟩ := hSw; go_simp; try with_reducible rfl)
                        (try simp only [Act.put, lq1, lq2, lq3, lq4, lq5, lq6])
                        refine wt (i := 8) (v := ?vd21q8x28) rfl ?hd21q8x28 ?rd21q8x28
                        case hd21q8x28 => (intro w hSw; (try dsimp only at hSw); obtain ⟨⟨z6, z7⟩, ⟨z0, z1⟩, ⟨z2, z3⟩, z4, z5⟩ := hSw; go_simp; try with_reducible rfl)
                        (try simp only [Act.put, lq1, lq2, lq3, lq4, lq5, lq6])
                        refine wt (i := 9) (v := ?vd21q9x31) rfl ?hd21q9x31 ?rd21q9x31
                        case hd21q9x31 => (intro w hSw; (try dsimp only at hSw); obtain ⟨⟨z6, z7⟩, ⟨z0, z1⟩, ⟨z2, z3⟩, z4, z5⟩ := hSw; go_simp; try with_reducible rfl)
                        (try simp only [Act.put, lq1, lq2, lq3, lq4, lq5, lq6])
                        refine wt (i := 10) (v := ?vd21q10x34) rfl ?hd21q10x34 ?rd21q10x34
                        case hd21q10x34 => (intro w hSw; (try dsimp only at hSw); obtain ⟨⟨z6, z7⟩, ⟨z0, z1⟩, ⟨z2, z3⟩, z4, z5⟩ := hSw; go_simp; try with_reducible rfl)
                        (try simp only [Act.put, lq1, lq2, lq3, lq4, lq5, lq6])
                        refine wt (i := 11) (v := ?vd21q11x37) rfl ?hd21q11x37 ?rd21q11x37
                        case hd21q11x37 => (intro w hSw; (try dsimp only at hSw); obtain ⟨⟨z6, z7⟩, ⟨z0, z1⟩, ⟨z2, z3⟩, z4, z5⟩ := hSw; go_simp; try with_reducible rfl)
                        (try simp only [Act.put, lq1, lq2, lq3, lq4, lq5, lq6])
                        refine wt (i := 12) (v := ?vd21q12x40) rfl ?hd21q12x40 ?rd21q12x40
                        case hd21q12x40 => (intro w hSw; (try dsimp only at hSw); obtain ⟨⟨z6, z7⟩, ⟨z0, z1⟩, ⟨z2, z3⟩, z4, z5⟩ := hSw; go_simp; try with_reducible rfl)
                        (try simp only [Act.put, lq1, lq2, lq3, lq4, lq5, lq6])
                        refine wt (i := 13) (v := ?vd21q13x43) rfl ?hd21q13x43 ?rd21q13x43
                        case hd21q13x43 => (intro w hSw; (try dsimp only at hSw); obtain ⟨⟨z6, z7⟩, ⟨z0, z1⟩, ⟨z2, z3⟩, z4, z5⟩ := hSw; go_simp; try with_reducible rfl)
                        (try simp only [Act.put, lq1, lq2, lq3, lq4, lq5, lq6])
                        refine wt (i := 14) (v := ?vd21q14x46) rfl ?hd21q14x46 ?rd21q14x46
                        case hd21q14x46 => (intro w hSw; (try dsimp only at hSw); obtain ⟨⟨z6, z7⟩, ⟨z0, z1⟩, ⟨z2, z3⟩, z4, z5⟩ := hSw; go_simp; try with_reducible rfl)
                        (try simp only [Act.put, lq1, lq2, lq3, lq4, lq5, lq6])
                        refine wpAnyH_ready (rs := [15]) (by kernel_rfl) (by simp) ?_
                        refine AllReadyH.cons rfl (fun K hK => ?_) AllReadyH.nil
                        go_simp
                        go_wp2_with (go_at_call 51; refine (HIn.out _).mono ?_; rintro e V8 ⟨rfl, hB⟩)
                        refine hK.out _ _ ?_ (fun hHeld => ?_)
                        · (try dsimp only); exact ⟨(At.below hB.out PX.out.1).c2, HC.out _ (Gr.step PX.out.2 hB.out)⟩
                        clear hK K
                        replace PX := hidb (And.intro (At.below hB.out PX.out.1) (Gr.step PX.out.2 hB.out))
                        clear hB
                        refine wt (i := 16) (v := ?vd21q16x58) rfl ?hd21q16x58 ?rd21q16x58
                        case hd21q16x58 => (intro w hSw; (try dsimp only at hSw); obtain ⟨⟨z6, z7⟩, ⟨z0, z1⟩, ⟨z2, z3⟩, z4, z5⟩ := hSw; go_simp; try with_reducible rfl)
                        (try simp only [Act.put, lq1, lq2, lq3, lq4, lq5, lq6])
                        refine wpAnyH_done (by kernel_rfl) ?_ _
                        go_wp2
                        go_ret
                        exact ⟨by rw [HZ.out]; rfl, PX.out.2⟩
                      · rw [decide_eq_false c3] at HIn
                        have HZ := hidb (HMr.out (fun _ _ _ => c3))
                        clear c0 c1 c2 c3 HBad
                        refine wp_region_held_drew (S := (fun w' => (w'.cell? ⟨XB, 0, none⟩ = some (.int .i64 x0.1) ∧ w'.cell? ⟨XB, 1, none⟩ = some (.int .i64 x0.2)) ∧ (w'.cell? ⟨b1, u0, none⟩ = some (.int .i64 A0.1) ∧ w'.cell? ⟨b1, u0 + 1, none⟩ = some (.int .i64 A0.2)) ∧ (w'.cell? ⟨b1, u1, none⟩ = some (.int .i64 A1.1) ∧ w'.cell? ⟨b1, u1 + 1, none⟩ = some (.int .i64 A1.2)) ∧ (w'.cell? ⟨b1, u2, none⟩ = some (.int .i64 A2.1) ∧ w'.cell? ⟨b1, u2 + 1, none⟩ = some (.int .i64 A2.2)))) (by kernel_rfl) ?_ (fun hHeld => ?_)
                        · (try dsimp only); exact ⟨PX.out.1.drew.c2, HC.out _ PX.out.2.drew⟩
                        skip
                        refine wt (i := 0) (v := ?vc18q0x3) rfl ?hc18q0x3 ?rc18q0x3
                        case hc18q0x3 => (intro w hSw; (try dsimp only at hSw); obtain ⟨⟨z6, z7⟩, ⟨z0, z1⟩, ⟨z2, z3⟩, z4, z5⟩ := hSw; go_simp; try with_reducible rfl)
                        (try simp only [Act.put, lq1, lq2, lq4, lq5, lq6])
                        refine wt (i := 1) (v := ?vc18q1x6) rfl ?hc18q1x6 ?rc18q1x6
                        case hc18q1x6 => (intro w hSw; (try dsimp only at hSw); obtain ⟨⟨z6, z7⟩, ⟨z0, z1⟩, ⟨z2, z3⟩, z4, z5⟩ := hSw; go_simp; try with_reducible rfl)
                        (try simp only [Act.put, lq1, lq2, lq3, lq4, lq5, lq6])
                        refine wt (i := 2) (v := ?vc18q2x9) rfl ?hc18q2x9 ?rc18q2x9
                        case hc18q2x9 => (intro w hSw; (try dsimp only at hSw); obtain ⟨⟨z6, z7⟩, ⟨z0, z1⟩, ⟨z2, z3⟩, z4, z5⟩ := hSw; go_simp; try with_reducible rfl)
                        (try simp only [Act.put, lq1, lq2, lq3, lq4, lq5, lq6])
                        refine wt (i := 3) (v := ?vc18q3x12) rfl ?hc18q3x12 ?rc18q3x12
                        case hc18q3x12 => (intro w hSw; (try dsimp only at hSw); obtain ⟨⟨z6, z7⟩, ⟨z0, z1⟩, ⟨z2, z3⟩, z4, z5⟩ := hSw; go_simp; try with_reducible rfl)
                        (try simp only [Act.put, lq1, lq2, lq3, lq4, lq5, lq6])
                        refine wt (i := 4) (v := ?vc18q4x15) rfl ?hc18q4x15 ?rc18q4x15
                        case hc18q4x15 => (intro w hSw; (try dsimp only at hSw); obtain ⟨⟨z6, z7⟩, ⟨z0, z1⟩, ⟨z2, z3⟩, z4, z5⟩ := hSw; go_simp; try with_reducible rfl)
                        (try simp only [Act.put, lq1, lq2, lq3, lq4, lq5, lq6])
                        refine wt (i := 5) (v := ?vc18q5x18) rfl ?hc18q5x18 ?rc18q5x18
                        case hc18q5x18 => (intro w hSw; (try dsimp only at hSw); obtain ⟨⟨z6, z7⟩, ⟨z0, z1⟩, ⟨z2, z3⟩, z4, z5⟩ := hSw; go_simp; try with_reducible rfl)
                        (try simp only [Act.put, lq1, lq2, lq3, lq4, lq5, lq6])
                        refine wt (i := 6) (v := ?vc18q6x21) rfl ?hc18q6x21 ?rc18q6x21
                        case hc18q6x21 => (intro w hSw; (try dsimp only at hSw); obtain ⟨⟨z6, z7⟩, ⟨z0, z1⟩, ⟨z2, z3⟩, z4, z5⟩ := hSw; go_simp; try with_reducible rfl)
                        (try simp only [Act.put, lq1, lq2, lq3, lq4, lq5, lq6])
                        refine wt (i := 7) (v := ?vc18q7x24) rfl ?hc18q7x24 ?rc18q7x24
                        case hc18q7x24 => (intro w hSw; (try dsimp only at hSw); obtain ⟨⟨z6, z7⟩, ⟨z0, z1⟩, ⟨z2, z3⟩, z4, z5⟩ := hSw; go_simp; try with_reducible rfl)
                        (try simp only [Act.put, lq1, lq2, lq3, lq4, lq5, lq6])
                        refine wt (i := 8) (v := ?vc18q8x27) rfl ?hc18q8x27 ?rc18q8x27
                        case hc18q8x27 => (intro w hSw; (try dsimp only at hSw); obtain ⟨⟨z6, z7⟩, ⟨z0, z1⟩, ⟨z2, z3⟩, z4, z5⟩ := hSw; go_simp; try with_reducible rfl)
                        (try simp only [Act.put, lq1, lq2, lq3, lq4, lq5, lq6])
                        refine wt (i := 9) (v := ?vc18q9x30) rfl ?hc18q9x30 ?rc18q9x30
                        case hc18q9x30 => (intro w hSw; (try dsimp only at hSw); obtain ⟨⟨z6, z7⟩, ⟨z0, z1⟩, ⟨z2, z3⟩, z4, z5⟩ := hSw; go_simp; try with_reducible rfl)
                        (try simp only [Act.put, lq1, lq2, lq3, lq4, lq5, lq6])
                        refine wt (i := 10) (v := ?vc18q10x33) rfl ?hc18q10x33 ?rc18q10x33
                        case hc18q10x33 => (intro w hSw; (try dsimp only at hSw); obtain ⟨⟨z6, z7⟩, ⟨z0, z1⟩, ⟨z2, z3⟩, z4, z5⟩ := hSw; go_simp; try with_reducible rfl)
                        (try simp only [Act.put, lq1, lq2, lq3, lq4, lq5, lq6])
                        refine wt (i := 11) (v := ?vc18q11x36) rfl ?hc18q11x36 ?rc18q11x36
                        case hc18q11x36 => (intro w hSw; (try dsimp only at hSw); obtain ⟨⟨z6, z7⟩, ⟨z0, z1⟩, ⟨z2, z3⟩, z4, z5⟩ := hSw; go_simp; try with_reducible rfl)
                        (try simp only [Act.put, lq1, lq2, lq3, lq4, lq5, lq6])
                        refine wt (i := 12) (v := ?vc18q12x39) rfl ?hc18q12x39 ?rc18q12x39
                        case hc18q12x39 => (intro w hSw; (try dsimp only at hSw); obtain ⟨⟨z6, z7⟩, ⟨z0, z1⟩, ⟨z2, z3⟩, z4, z5⟩ := hSw; go_simp; try with_reducible rfl)
                        (try simp only [Act.put, lq1, lq2, lq3, lq4, lq5, lq6])
                        refine wt (i := 13) (v := ?vc18q13x42) rfl ?hc18q13x42 ?rc18q13x42
                        case hc18q13x42 => (intro w hSw; (try dsimp only at hSw); obtain ⟨⟨z6, z7⟩, ⟨z0, z1⟩, ⟨z2, z3⟩, z4, z5⟩ := hSw; go_simp; try with_reducible rfl)
                        (try simp only [Act.put, lq1, lq2, lq3, lq4, lq5, lq6])
                        refine wt (i := 14) (v := ?vc18q14x45) rfl ?hc18q14x45 ?rc18q14x45
                        case hc18q14x45 => (intro w hSw; (try dsimp only at hSw); obtain ⟨⟨z6, z7⟩, ⟨z0, z1⟩, ⟨z2, z3⟩, z4, z5⟩ := hSw; go_simp; try with_reducible rfl)
                        (try simp only [Act.put, lq1, lq2, lq3, lq4, lq5, lq6])
                        refine wt (i := 15) (v := ?vc18q15x48) rfl ?hc18q15x48 ?rc18q15x48
                        case hc18q15x48 => (intro w hSw; (try dsimp only at hSw); obtain ⟨⟨z6, z7⟩, ⟨z0, z1⟩, ⟨z2, z3⟩, z4, z5⟩ := hSw; go_simp; try with_reducible rfl)
                        (try simp only [Act.put, lq1, lq2, lq3, lq4, lq5, lq6])
                        refine wt (i := 16) (v := ?vc18q16x51) rfl ?hc18q16x51 ?rc18q16x51
                        case hc18q16x51 => (intro w hSw; (try dsimp only at hSw); obtain ⟨⟨z6, z7⟩, ⟨z0, z1⟩, ⟨z2, z3⟩, z4, z5⟩ := hSw; go_simp; try with_reducible rfl)
                        (try simp only [Act.put, lq1, lq2, lq3, lq4, lq5, lq6])
                        refine wt (i := 17) (v := ?vc18q17x54) rfl ?hc18q17x54 ?rc18q17x54
                        case hc18q17x54 => (intro w hSw; (try dsimp only at hSw); obtain ⟨⟨z6, z7⟩, ⟨z0, z1⟩, ⟨z2, z3⟩, z4, z5⟩ := hSw; go_simp; try with_reducible rfl)
                        (try simp only [Act.put, lq1, lq2, lq3, lq4, lq5, lq6])
                        refine wt (i := 18) (v := ?vc18q18x57) rfl ?hc18q18x57 ?rc18q18x57
                        case hc18q18x57 => (intro w hSw; (try dsimp only at hSw); obtain ⟨⟨z6, z7⟩, ⟨z0, z1⟩, ⟨z2, z3⟩, z4, z5⟩ := hSw; go_simp; try with_reducible rfl)
                        (try simp only [Act.put, lq1, lq2, lq3, lq4, lq5, lq6])
                        refine wt (i := 19) (v := ?vc18q19x60) rfl ?hc18q19x60 ?rc18q19x60
                        case hc18q19x60 => (intro w hSw; (try dsimp only at hSw); obtain ⟨⟨z6, z7⟩, ⟨z0, z1⟩, ⟨z2, z3⟩, z4, z5⟩ := hSw; go_simp; try with_reducible rfl)
                        (try simp only [Act.put, lq1, lq2, lq3, lq4, lq5, lq6])
                        refine wt (i := 20) (v := ?vc18q20x63) rfl ?hc18q20x63 ?rc18q20x63
                        case hc18q20x63 => (intro w hSw; (try dsimp only at hSw); obtain ⟨⟨z6, z7⟩, ⟨z0, z1⟩, ⟨z2, z3⟩, z4, z5⟩ := hSw; go_simp; try with_reducible rfl)
                        (try simp only [Act.put, lq1, lq2, lq3, lq4, lq5, lq6])
                        refine wt (i := 21) (v := ?vc18q21x66) rfl ?hc18q21x66 ?rc18q21x66
                        case hc18q21x66 => (intro w hSw; (try dsimp only at hSw); obtain ⟨⟨z6, z7⟩, ⟨z0, z1⟩, ⟨z2, z3⟩, z4, z5⟩ := hSw; go_simp; try with_reducible rfl)
                        (try simp only [Act.put, lq1, lq2, lq3, lq4, lq5, lq6])
                        refine wt (i := 22) (v := ?vc18q22x69) rfl ?hc18q22x69 ?rc18q22x69
                        case hc18q22x69 => (intro w hSw; (try dsimp only at hSw); obtain ⟨⟨z6, z7⟩, ⟨z0, z1⟩, ⟨z2, z3⟩, z4, z5⟩ := hSw; go_simp; try with_reducible rfl)
                        (try simp only [Act.put, lq1, lq2, lq3, lq4, lq5, lq6])
                        refine wt (i := 23) (v := ?vc18q23x72) rfl ?hc18q23x72 ?rc18q23x72
                        case hc18q23x72 => (intro w hSw; (try dsimp only at hSw); obtain ⟨⟨z6, z7⟩, ⟨z0, z1⟩, ⟨z2, z3⟩, z4, z5⟩ := hSw; go_simp; try with_reducible rfl)
                        (try simp only [Act.put, lq1, lq2, lq3, lq4, lq5, lq6])
                        refine wpAnyH_done (by kernel_rfl) ?_ _
                        go_upto_region 15 with fail
                        replace PX := hidb (And.intro PX.out.1.drew PX.out.2.drew)
                        generalize W8.drew = V7 at *
                        refine wp_region_held_drew (S := (fun w' => (w'.cell? ⟨XB, 0, none⟩ = some (.int .i64 x0.1) ∧ w'.cell? ⟨XB, 1, none⟩ = some (.int .i64 x0.2)) ∧ (w'.cell? ⟨b1, u0, none⟩ = some (.int .i64 A0.1) ∧ w'.cell? ⟨b1, u0 + 1, none⟩ = some (.int .i64 A0.2)) ∧ (w'.cell? ⟨b1, u1, none⟩ = some (.int .i64 A1.1) ∧ w'.cell? ⟨b1, u1 + 1, none⟩ = some (.int .i64 A1.2)) ∧ (w'.cell? ⟨b1, u2, none⟩ = some (.int .i64 A2.1) ∧ w'.cell? ⟨b1, u2 + 1, none⟩ = some (.int .i64 A2.2)))) (by kernel_rfl) ?_ (fun hHeld => ?_)
                        · (try dsimp only); exact ⟨PX.out.1.drew.c2, HC.out _ PX.out.2.drew⟩
                        replace PX := hidb (And.intro PX.out.1.drew PX.out.2.drew)
                        generalize V7.drew = V0 at *
                        refine wt (i := 0) (v := ?vd22q0x4) rfl ?hd22q0x4 ?rd22q0x4
                        case hd22q0x4 => (intro w hSw; (try dsimp only at hSw); obtain ⟨⟨z6, z7⟩, ⟨z0, z1⟩, ⟨z2, z3⟩, z4, z5⟩ := hSw; go_simp; try with_reducible rfl)
                        (try simp only [Act.put, lq1, lq2, lq4, lq5, lq6])
                        refine wt (i := 1) (v := ?vd22q1x7) rfl ?hd22q1x7 ?rd22q1x7
                        case hd22q1x7 => (intro w hSw; (try dsimp only at hSw); obtain ⟨⟨z6, z7⟩, ⟨z0, z1⟩, ⟨z2, z3⟩, z4, z5⟩ := hSw; go_simp; try with_reducible rfl)
                        (try simp only [Act.put, lq1, lq2, lq3, lq4, lq5, lq6])
                        refine wt (i := 2) (v := ?vd22q2x10) rfl ?hd22q2x10 ?rd22q2x10
                        case hd22q2x10 => (intro w hSw; (try dsimp only at hSw); obtain ⟨⟨z6, z7⟩, ⟨z0, z1⟩, ⟨z2, z3⟩, z4, z5⟩ := hSw; go_simp; try with_reducible rfl)
                        (try simp only [Act.put, lq1, lq2, lq3, lq4, lq5, lq6])
                        refine wt (i := 3) (v := ?vd22q3x13) rfl ?hd22q3x13 ?rd22q3x13
                        case hd22q3x13 => (intro w hSw; (try dsimp only at hSw); obtain ⟨⟨z6, z7⟩, ⟨z0, z1⟩, ⟨z2, z3⟩, z4, z5⟩ := hSw; go_simp; try with_reducible rfl)
                        (try simp only [Act.put, lq1, lq2, lq3, lq4, lq5, lq6])
                        refine wt (i := 4) (v := ?vd22q4x16) rfl ?hd22q4x16 ?rd22q4x16
                        case hd22q4x16 => (intro w hSw; (try dsimp only at hSw); obtain ⟨⟨z6, z7⟩, ⟨z0, z1⟩, ⟨z2, z3⟩, z4, z5⟩ := hSw; go_simp; try with_reducible rfl)
                        (try simp only [Act.put, lq1, lq2, lq3, lq4, lq5, lq6])
                        refine wt (i := 5) (v := ?vd22q5x19) rfl ?hd22q5x19 ?rd22q5x19
                        case hd22q5x19 => (intro w hSw; (try dsimp only at hSw); obtain ⟨⟨z6, z7⟩, ⟨z0, z1⟩, ⟨z2, z3⟩, z4, z5⟩ := hSw; go_simp; try with_reducible rfl)
                        (try simp only [Act.put, lq1, lq2, lq3, lq4, lq5, lq6])
                        refine wt (i := 6) (v := ?vd22q6x22) rfl ?hd22q6x22 ?rd22q6x22
                        case hd22q6x22 => (intro w hSw; (try dsimp only at hSw); obtain ⟨⟨z6, z7⟩, ⟨z0, z1⟩, ⟨z2, z3⟩, z4, z5⟩ := hSw; go_simp; try with_reducible rfl)
                        (try simp only [Act.put, lq1, lq2, lq3, lq4, lq5, lq6])
                        refine wt (i := 7) (v := ?vd22q7x25) rfl ?hd22q7x25 ?rd22q7x25
                        case hd22q7x25 => (intro w hSw; (try dsimp only at hSw); obtain ⟨⟨z6, z7⟩, ⟨z0, z1⟩, ⟨z2, z3⟩, z4, z5⟩ := hSw; go_simp; try with_reducible rfl)
                        (try simp only [Act.put, lq1, lq2, lq3, lq4, lq5, lq6])
                        refine wt (i := 8) (v := ?vd22q8x28) rfl ?hd22q8x28 ?rd22q8x28
                        case hd22q8x28 => (intro w hSw; (try dsimp only at hSw); obtain ⟨⟨z6, z7⟩, ⟨z0, z1⟩, ⟨z2, z3⟩, z4, z5⟩ := hSw; go_simp; try with_reducible rfl)
                        (try simp only [Act.put, lq1, lq2, lq3, lq4, lq5, lq6])
                        refine wt (i := 9) (v := ?vd22q9x31) rfl ?hd22q9x31 ?rd22q9x31
                        case hd22q9x31 => (intro w hSw; (try dsimp only at hSw); obtain ⟨⟨z6, z7⟩, ⟨z0, z1⟩, ⟨z2, z3⟩, z4, z5⟩ := hSw; go_simp; try with_reducible rfl)
                        (try simp only [Act.put, lq1, lq2, lq3, lq4, lq5, lq6])
                        refine wt (i := 10) (v := ?vd22q10x34) rfl ?hd22q10x34 ?rd22q10x34
                        case hd22q10x34 => (intro w hSw; (try dsimp only at hSw); obtain ⟨⟨z6, z7⟩, ⟨z0, z1⟩, ⟨z2, z3⟩, z4, z5⟩ := hSw; go_simp; try with_reducible rfl)
                        (try simp only [Act.put, lq1, lq2, lq3, lq4, lq5, lq6])
                        refine wt (i := 11) (v := ?vd22q11x37) rfl ?hd22q11x37 ?rd22q11x37
                        case hd22q11x37 => (intro w hSw; (try dsimp only at hSw); obtain ⟨⟨z6, z7⟩, ⟨z0, z1⟩, ⟨z2, z3⟩, z4, z5⟩ := hSw; go_simp; try with_reducible rfl)
                        (try simp only [Act.put, lq1, lq2, lq3, lq4, lq5, lq6])
                        refine wt (i := 12) (v := ?vd22q12x40) rfl ?hd22q12x40 ?rd22q12x40
                        case hd22q12x40 => (intro w hSw; (try dsimp only at hSw); obtain ⟨⟨z6, z7⟩, ⟨z0, z1⟩, ⟨z2, z3⟩, z4, z5⟩ := hSw; go_simp; try with_reducible rfl)
                        (try simp only [Act.put, lq1, lq2, lq3, lq4, lq5, lq6])
                        refine wt (i := 13) (v := ?vd22q13x43) rfl ?hd22q13x43 ?rd22q13x43
                        case hd22q13x43 => (intro w hSw; (try dsimp only at hSw); obtain ⟨⟨z6, z7⟩, ⟨z0, z1⟩, ⟨z2, z3⟩, z4, z5⟩ := hSw; go_simp; try with_reducible rfl)
                        (try simp only [Act.put, lq1, lq2, lq3, lq4, lq5, lq6])
                        refine wt (i := 14) (v := ?vd22q14x46) rfl ?hd22q14x46 ?rd22q14x46
                        case hd22q14x46 => (intro w hSw; (try dsimp only at hSw); obtain ⟨⟨z6, z7⟩, ⟨z0, z1⟩, ⟨z2, z3⟩, z4, z5⟩ := hSw; go_simp; try with_reducible rfl)
                        (try simp only [Act.put, lq1, lq2, lq3, lq4, lq5, lq6])
                        refine wpAnyH_ready (rs := [15]) (by kernel_rfl) (by simp) ?_
                        refine AllReadyH.cons rfl (fun K hK => ?_) AllReadyH.nil
                        go_simp
                        go_wp2_with (go_at_call 51; refine (HIn.out _).mono ?_; rintro e V9 ⟨rfl, hB⟩)
                        refine hK.out _ _ ?_ (fun hHeld => ?_)
                        · (try dsimp only); exact ⟨(At.below hB.out PX.out.1).c2, HC.out _ (Gr.step PX.out.2 hB.out)⟩
                        clear hK K
                        replace PX := hidb (And.intro (At.below hB.out PX.out.1) (Gr.step PX.out.2 hB.out))
                        clear hB
                        refine wt (i := 16) (v := ?vd22q16x58) rfl ?hd22q16x58 ?rd22q16x58
                        case hd22q16x58 => (intro w hSw; (try dsimp only at hSw); obtain ⟨⟨z6, z7⟩, ⟨z0, z1⟩, ⟨z2, z3⟩, z4, z5⟩ := hSw; go_simp; try with_reducible rfl)
                        (try simp only [Act.put, lq1, lq2, lq3, lq4, lq5, lq6])
                        refine wpAnyH_done (by kernel_rfl) ?_ _
                        go_wp2
                        go_roundw
                        case rel => exact ⟨j + 1, H2.out, by go_num, hidb ⟨by first | exact PX.out.2 | exact PX.out.2.drew, HZ.out⟩⟩
                        case measure => have := H2.out; simp [intOf]; omega
end Go.Proofs.YtnadgoomkaldkaaDoor
