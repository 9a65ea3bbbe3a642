/-
  mercatorref3.TrianglesAt.
-/
import Derived.Test.YthbobceghbknoaaDoorQRlU
namespace Go.Proofs.YthbobceghbknoaaDoor
open Go.RowKit

set_option maxRecDepth 4000 in
set_option maxHeartbeats 32000000 in
theorem trianglesAt_any {pb po m n b o cap : Nat} {l : List Int} (num den : Int) (w : World) (rp : PtR w pb po m n (.slice (some ⟨b, o, none⟩) l.length cap)) (rs : Rs w b o cap l) (ok : Ok l m n) (he : heI num den = true) : Calls Tryd.prog 17 #[.pointer (some ⟨pb, po, none⟩), .int .i64 num, .int .i64 den] w fun e w' => e = .returned (.tuple #[.int .i64 (allS (whC l m num den) (m - 1) (n - 1) : Int), .int .i64 (allS (ptC l m num den) (m - 1) (n - 1) : Int)]) ∧ Gr w w' := by
  have ll := ok.len_le
  have hm1 := ok.m1
  have hn1 := ok.n1
  have hm2 := ok.m2
  have hn2 := ok.n2
  unfold heI inI at he
  simp only [Bool.and_eq_true, decide_eq_true_eq] at he
  have HDen := hidb he
  have RP := hidb rp
  have RS := hidb rs
  have HOk := hidb ok
  obtain ⟨m1, hm3⟩ : ∃ z, z = m - 1 := ⟨_, rfl⟩
  obtain ⟨n1, hn3⟩ : ∃ z, z = n - 1 := ⟨_, rfl⟩
  rw [← hm3, ← hn3]
  have HW := hidb (fun r => allS_le (whC_le l m num den) (cols := m1) (by omega) r)
  have HP := hidb (fun r => allS_le (ptC_le l m num den) (cols := m1) (by omega) r)
  have HW2 := hidb (fun r c => rowS_le (whC_le l m num den) r c)
  have HP2 := hidb (fun r c => rowS_le (ptC_le l m num den) r c)
  have HM := hidb (show m = m1 + 1 ∧ n = n1 + 1 ∧ m1 ≤ 127 ∧ n1 ≤ 127 ∧ l.length ≤ 16384 by omega)
  clear rp rs ok he hm1 hn1 hm2 hn2 ll hm3 hn3
  go_enter Tryd.func17, Tryd.ntmps17
  go_wp2
  go_loopw [8, 9, 10] (fun a b' t wr => ∃ (r : Nat), r ≤ n1 ∧ t = .int .i64 (r : Int) ∧ a = .int .i64 (allS (whC l m num den) m1 r : Int) ∧ b' = .int .i64 (allS (ptC l m num den) m1 r : Int) ∧ Hid (Gr w wr)) (fun _ _ t _ => n1 - (intOf t).toNat)
  case atStart => exact ⟨0, Nat.zero_le _, rfl, rfl, rfl, hidb (Gr.refl _)⟩
  case round =>
    obtain ⟨r, hr, rfl, rfl, rfl, HG⟩ := hrel
    obtain ⟨r1, hrr, e1⟩ : ∃ z : Int, z = (r : Int) + 1 ∧ IntKind.i64.wrap ((r : Int) + 1) = z := ⟨_, rfl, wrap_in (by omega) (by have := HM.out; omega)⟩
    by_cases hr1 : r < n1
    · have hr2 : r1 < (n : Int) := by have := HM.out; omega
      have LW := hidb (HW.out r)
      have LP := hidb (HP.out r)
      have SW : Hid (allS (whC l m num den) m1 (r + 1) = allS (whC l m num den) m1 r + rowS (whC l m num den) r m1) := rfl
      have SP : Hid (allS (ptC l m num den) m1 (r + 1) = allS (ptC l m num den) m1 r + rowS (ptC l m num den) r m1) := rfl
      generalize allS (whC l m num den) m1 r = aw at *
      generalize allS (ptC l m num den) m1 r = ap at *
      have HR1 := hidb hrr
      clear hrr
      obtain ⟨p0, p1, p2⟩ := RP.out.below HG.out.out
      go_wp2
      clear p0 p1 p2
      go_loopw [8, 9, 11] (fun a b' t wr => ∃ (c : Nat), c ≤ m1 ∧ t = .int .i64 (c : Int) ∧ a = .int .i64 ((aw + rowS (whC l m num den) r c : Nat) : Int) ∧ b' = .int .i64 ((ap + rowS (ptC l m num den) r c : Nat) : Int) ∧ Hid (Gr w wr)) (fun _ _ t _ => m1 - (intOf t).toNat)
      case atStart => exact ⟨0, Nat.zero_le _, rfl, rfl, rfl, HG⟩
      case round =>
        clear HG
        obtain ⟨c, hc, rfl, rfl, rfl, HG⟩ := hrel
        obtain ⟨c1, hcc, e2⟩ : ∃ z : Int, z = (c : Int) + 1 ∧ IntKind.i64.wrap ((c : Int) + 1) = z := ⟨_, rfl, wrap_in (by omega) (by have := HM.out; omega)⟩
        obtain ⟨p0, p1, p2⟩ := RP.out.below HG.out.out
        by_cases hc1 : c < m1
        · have hc2 : c1 < (m : Int) := by have := HM.out; omega
          have KW := hidb (HW2.out r c)
          have KP := hidb (HP2.out r c)
          have j0 := HOk.out.cell (c := c) (r := r) (by have := HM.out; omega) (by have := HM.out; omega)
          have j1 := HOk.out.cell (c := c + 1) (r := r) (by have := HM.out; omega) (by have := HM.out; omega)
          have j2 := HOk.out.cell (c := c) (r := r + 1) (by have := HM.out; omega) (by have := HM.out; omega)
          have j3 := HOk.out.cell (c := c + 1) (r := r + 1) (by have := HM.out; omega) (by have := HM.out; omega)
          obtain ⟨i0, hi0⟩ : ∃ i, i = r * m + c := ⟨_, rfl⟩
          obtain ⟨i2, hi2⟩ : ∃ i, i = (r + 1) * m + c := ⟨_, rfl⟩
          obtain ⟨i1, hi1⟩ : ∃ i, i = i0 + 1 := ⟨_, rfl⟩
          obtain ⟨i3, hi3⟩ : ∃ i, i = i2 + 1 := ⟨_, rfl⟩
          rw [← Nat.add_assoc] at j1 j3
          rw [← hi0] at j0 j1
          rw [← hi2] at j2 j3
          rw [← hi1] at j1
          rw [← hi3] at j3
          obtain ⟨k0, hk0, w0⟩ : ∃ z : Int, z = ((r * m : Nat) : Int) ∧ IntKind.i64.wrap ((r : Int) * (m : Int)) = z := ⟨_, rfl, by rw [← Int.natCast_mul]; exact wrap_in (by omega) (by have := HM.out; omega)⟩
          have w1 : IntKind.i64.wrap (k0 + (c : Int)) = (i0 : Int) := by rw [show k0 + (c : Int) = (i0 : Int) by omega]; exact wrap_in (by omega) (by have := HM.out; omega)
          have w2 : IntKind.i64.wrap ((i0 : Int) + 1) = (i1 : Int) := by rw [show (i0 : Int) + 1 = (i1 : Int) by omega]; exact wrap_in (by omega) (by have := HM.out; omega)
          obtain ⟨k2, hk2, w4⟩ : ∃ z : Int, z = (((r + 1) * m : Nat) : Int) ∧ IntKind.i64.wrap (r1 * (m : Int)) = z := ⟨_, rfl, by rw [HR1.out, show (r : Int) + 1 = ((r + 1 : Nat) : Int) by omega, ← Int.natCast_mul]; exact wrap_in (by omega) (by have := HM.out; omega)⟩
          have w5 : IntKind.i64.wrap (k2 + (c : Int)) = (i2 : Int) := by rw [show k2 + (c : Int) = (i2 : Int) by omega]; exact wrap_in (by omega) (by have := HM.out; omega)
          have w6 : IntKind.i64.wrap ((i2 : Int) + 1) = (i3 : Int) := by rw [show (i2 : Int) + 1 = (i3 : Int) by omega]; exact wrap_in (by omega) (by have := HM.out; omega)
          have RW : Hid (rowS (whC l m num den) r (c + 1) = rowS (whC l m num den) r c + (whI (dv num den (gl l i0)) (dv num den (gl l i1)) (dv num den (gl l i3)) + whI (dv num den (gl l i0)) (dv num den (gl l i2)) (dv num den (gl l i3)))) := by rw [hi3, hi1, hi0, hi2]; rfl
          have RQ : Hid (rowS (ptC l m num den) r (c + 1) = rowS (ptC l m num den) r c + (ptI (dv num den (gl l i0)) (dv num den (gl l i1)) (dv num den (gl l i3)) + ptI (dv num den (gl l i0)) (dv num den (gl l i2)) (dv num den (gl l i3)))) := by rw [hi3, hi1, hi0, hi2]; rfl
          have I0 := hidb (iindex b o l.length cap i0 j0)
          have I1 := hidb (iindex b o l.length cap i1 j1)
          have I2 := hidb (iindex b o l.length cap i2 j2)
          have I3 := hidb (iindex b o l.length cap i3 j3)
          have L0 := hidb (fun (W : World) (hG : Gr w W) => (RS.out.below hG.out).get j0)
          have L1 := hidb (fun (W : World) (hG : Gr w W) => (RS.out.below hG.out).get j1)
          have L2 := hidb (fun (W : World) (hG : Gr w W) => (RS.out.below hG.out).get j2)
          have L3 := hidb (fun (W : World) (hG : Gr w W) => (RS.out.below hG.out).get j3)
          have g0 := HOk.out.hi i0
          have g1 := HOk.out.hi i1
          have g2 := HOk.out.hi i2
          have g3 := HOk.out.hi i3
          generalize gl l i0 = q0 at *
          generalize gl l i1 = q1 at *
          generalize gl l i2 = q2 at *
          generalize gl l i3 = q3 at *
          have D0 := den_mul g0 HDen.out.1.1 HDen.out.1.2
          have D1 := den_mul g1 HDen.out.1.1 HDen.out.1.2
          have D2 := den_mul g2 HDen.out.1.1 HDen.out.1.2
          have D3 := den_mul g3 HDen.out.1.1 HDen.out.1.2
          obtain ⟨hd3, hd4⟩ := HDen.out.2
          obtain ⟨u0, H0, f0⟩ : ∃ z : Int, z = q0 * den ∧ IntKind.i64.wrap (q0 * den) = z := ⟨_, rfl, wrap_in (by omega) (by omega)⟩
          obtain ⟨u1, H1, f1⟩ : ∃ z : Int, z = q1 * den ∧ IntKind.i64.wrap (q1 * den) = z := ⟨_, rfl, wrap_in (by omega) (by omega)⟩
          obtain ⟨u2, H2, f2⟩ : ∃ z : Int, z = q2 * den ∧ IntKind.i64.wrap (q2 * den) = z := ⟨_, rfl, wrap_in (by omega) (by omega)⟩
          obtain ⟨u3, H3, f3⟩ : ∃ z : Int, z = q3 * den ∧ IntKind.i64.wrap (q3 * den) = z := ⟨_, rfl, wrap_in (by omega) (by omega)⟩
          obtain ⟨v0, H4, f4⟩ : ∃ z : Int, z = u0 - num ∧ IntKind.i64.wrap (u0 - num) = z := ⟨_, rfl, wrap_in (by omega) (by omega)⟩
          obtain ⟨v1, H5, f5⟩ : ∃ z : Int, z = u1 - num ∧ IntKind.i64.wrap (u1 - num) = z := ⟨_, rfl, wrap_in (by omega) (by omega)⟩
          obtain ⟨v2, H6, f6⟩ : ∃ z : Int, z = u2 - num ∧ IntKind.i64.wrap (u2 - num) = z := ⟨_, rfl, wrap_in (by omega) (by omega)⟩
          obtain ⟨v3, H7, f7⟩ : ∃ z : Int, z = u3 - num ∧ IntKind.i64.wrap (u3 - num) = z := ⟨_, rfl, wrap_in (by omega) (by omega)⟩
          unfold dv at RW RQ
          rw [← H0, ← H1, ← H2, ← H3, ← H4, ← H5, ← H6, ← H7] at RW RQ
          have T0 := hidb (fun W1 => triangle_any v0 v1 v3 W1)
          have T1 := hidb (fun W1 => triangle_any v0 v2 v3 W1)
          have B1 := whI_le v0 v1 v3
          have B2 := whI_le v0 v2 v3
          have B3 := ptI_le v0 v1 v3
          have B4 := ptI_le v0 v2 v3
          generalize whI v0 v1 v3 = wa at *
          generalize ptI v0 v1 v3 = pa at *
          generalize whI v0 v2 v3 = wb at *
          generalize ptI v0 v2 v3 = pb' at *
          generalize rowS (whC l m num den) r c = rw0 at *
          generalize rowS (ptC l m num den) r c = rp0 at *
          obtain ⟨N0, hN0⟩ : ∃ z, z = aw + rw0 := ⟨_, rfl⟩
          obtain ⟨P0, hP0⟩ : ∃ z, z = ap + rp0 := ⟨_, rfl⟩
          have HN0 := hidb hN0
          have HP0 := hidb hP0
          have lN : N0 ≤ 50000 := by have := LW.out; have := KW.out; have := HM.out; omega
          have lP : P0 ≤ 50000 := by have := LP.out; have := KP.out; have := HM.out; omega
          rw [← hN0, ← hP0]
          have s1 : IntKind.i64.wrap ((N0 : Int) + (wa : Int)) = ((N0 + wa : Nat) : Int) := wrap_in (by omega) (by omega)
          have s2 : IntKind.i64.wrap (((N0 + wa : Nat) : Int) + (wb : Int)) = ((N0 + wa + wb : Nat) : Int) := wrap_in (by omega) (by omega)
          have s3 : IntKind.i64.wrap ((P0 : Int) + (pa : Int)) = ((P0 + pa : Nat) : Int) := wrap_in (by omega) (by omega)
          have s4 : IntKind.i64.wrap (((P0 + pa : Nat) : Int) + (pb' : Int)) = ((P0 + pa + pb' : Nat) : Int) := wrap_in (by omega) (by omega)
          obtain ⟨Na, hNa⟩ : ∃ z : Int, ((N0 + wa : Nat) : Int) = z := ⟨_, rfl⟩
          obtain ⟨Nb, hNb⟩ : ∃ z : Int, ((N0 + wa + wb : Nat) : Int) = z := ⟨_, rfl⟩
          obtain ⟨Pa, hPa⟩ : ∃ z : Int, ((P0 + pa : Nat) : Int) = z := ⟨_, rfl⟩
          obtain ⟨Pb, hPb⟩ : ∃ z : Int, ((P0 + pa + pb' : Nat) : Int) = z := ⟨_, rfl⟩
          rw [hNa] at s1 s2
          rw [hNb] at s2
          rw [hPa] at s3 s4
          rw [hPb] at s4
          have HNb : Hid (Nb = ((aw + rowS (whC l m num den) r (c + 1) : Nat) : Int)) := by show _ = _; rw [RW.out, ← hNb, hN0]; omega
          have HPb : Hid (Pb = ((ap + rowS (ptC l m num den) r (c + 1) : Nat) : Int)) := by show _ = _; rw [RQ.out, ← hPb, hP0]; omega
          have HC1 := hidb (show c1 = ((c + 1 : Nat) : Int) by omega)
          clear hNa hNb hPa hPb hN0 hP0 lN lP B1 B2 B3 B4 D0 D1 D2 D3 hd3 hd4 g0 g1 g2 g3 H0 H1 H2 H3 H4 H5 H6 H7 hi0 hi1 hi2 hi3 hk0 hk2 j0 j1 j2 j3 hcc RW RQ
          go_upto_region 9 with fail
          have ix := I0.out
          have ce := L0.out _ HG.out
          go_quiet (fail)
          go_upto_region 10 with fail
          generalize hw : World.drewN wr _ = wq10
          replace HG : Hid (Gr w wq10) := by rw [← hw]; exact HG.out.drewN _
          clear hw p0 p1 p2 ix ce
          obtain ⟨p0, p1, p2⟩ := RP.out.below HG.out.out
          have ix := I1.out
          have ce := L1.out _ HG.out
          go_quiet (fail)
          go_upto_region 11 with fail
          generalize hw : World.drewN wq10 _ = wq11
          replace HG : Hid (Gr w wq11) := by rw [← hw]; exact HG.out.drewN _
          clear hw p0 p1 p2 ix ce
          obtain ⟨p0, p1, p2⟩ := RP.out.below HG.out.out
          have ix := I2.out
          have ce := L2.out _ HG.out
          go_quiet (fail)
          go_upto_region 12 with fail
          generalize hw : World.drewN wq11 _ = wq12
          replace HG : Hid (Gr w wq12) := by rw [← hw]; exact HG.out.drewN _
          clear hw p0 p1 p2 ix ce
          obtain ⟨p0, p1, p2⟩ := RP.out.below HG.out.out
          have ix := I3.out
          have ce := L3.out _ HG.out
          go_quiet (fail)
          go_wp2_with fail
          refine (T0.out _).mono ?_
          rintro e w7 ⟨rfl, rfl⟩
          go_wp2_with fail
          refine (T1.out _).mono ?_
          rintro e w8 ⟨rfl, rfl⟩
          clear p0 p1 p2 ix ce
          go_wp2
          go_roundw
          case rel => exact ⟨c + 1, by omega, by rw [HC1.out], by rw [HNb.out], by rw [HPb.out], hidb (by first | exact HG.out.drewN _ | exact HG.out)⟩
          case measure => have := HC1.out; simp [intOf]; omega
        · have hc2 : ¬ c1 < (m : Int) := by have := HM.out; omega
          have hcm : c = m1 := by omega
          have HS1 : Hid (aw + rowS (whC l m num den) r c = allS (whC l m num den) m1 (r + 1)) := by show _ = _; rw [SW.out, hcm]
          have HS2 : Hid (ap + rowS (ptC l m num den) r c = allS (ptC l m num den) m1 (r + 1)) := by show _ = _; rw [SP.out, hcm]
          have HR2 := hidb (show r1 = ((r + 1 : Nat) : Int) by have := HR1.out; omega)
          clear hcm SW SP hcc
          go_wp2
          go_roundw
          case rel => exact ⟨r + 1, by omega, by rw [HR2.out], by rw [HS1.out], by rw [HS2.out], HG⟩
          case measure => have := HR2.out; simp [intOf]; omega
    · have hr2 : ¬ r1 < (n : Int) := by have := HM.out; omega
      have hrn : r = n1 := by omega
      have HR := hidb hrn
      obtain ⟨p0, p1, p2⟩ := RP.out.below HG.out.out
      clear hrn hrr
      go_wp2
      go_ret2
      exact ⟨by rw [← HR.out]; rfl, HG.out⟩
end Go.Proofs.YthbobceghbknoaaDoor
