/-
  mercatorref3.CoarseOf.
-/
import Derived.Test.YtphpfongdbidoaaDoorQFsB
import Derived.Test.YtphpfongdbidoaaDoorQRa
namespace Go.Proofs.YtphpfongdbidoaaDoor
open Go.RowKit

theorem bs_row (l : List Int) (m t y le ri : Nat) : bs l m t (y + 1) le ri = bs l m t y le ri + (rs l m y ri - rs l m y le) := by
  unfold bs
  rw [show ps l m (y + 1) ri = ps l m y ri + rs l m y ri from rfl, show ps l m (y + 1) le = ps l m y le + rs l m y le from rfl]
  omega
theorem bs_none (l : List Int) (m t le ri : Nat) : bs l m t t le ri = 0 := by unfold bs; omega
/-- A block's last row and column; its mean. -/
def enN (k by' n : Nat) : Nat := min (k * by' + by') n
def cfI (l : List Int) (m n by' rc cc : Nat) : Int := bs l m (rc * by') (enN rc by' n) (cc * by') (enN cc by' m) / (((enN rc by' n - rc * by') * (enN cc by' m - cc * by') : Nat) : Int)
/-- How many blocks there are. -/
def many (n by' : Nat) : Nat := (n - 1) / by' + 1
def coL (l : List Int) (m n by' k : Nat) : List Int := (List.range k).map fun j => cfI l m n by' (j / many m by') (j % many m by')
theorem coL_len (l : List Int) (m n by' k : Nat) : (coL l m n by' k).length = k := by simp [coL]
theorem coL_snoc {l : List Int} {m n by' rc cc : Nat} (h : cc < many m by') : coL l m n by' (rc * many m by' + cc) ++ [cfI l m n by' rc cc] = coL l m n by' (rc * many m by' + cc + 1) := by
  unfold coL
  rw [List.range_succ, List.map_append]
  obtain ⟨e1, e2⟩ := mod_at (m := many m by') (r := rc) (c := cc) h
  simp [e1, e2]
theorem many_lt {n by' k : Nat} (hn : 1 ≤ n) (hb : 1 ≤ by') : k * by' < n ↔ k < many n by' := by
  unfold many
  constructor
  · intro h
    have : k ≤ (n - 1) / by' := (Nat.le_div_iff_mul_le hb).2 (by omega)
    omega
  · intro h
    have : k * by' ≤ n - 1 := (Nat.le_div_iff_mul_le hb).1 (by omega)
    omega
theorem many_le {n by' : Nat} (hn : 1 ≤ n) : many n by' ≤ n := by
  unfold many
  have := Nat.div_le_self (n - 1) by'
  omega
theorem own_shapeS {w : World} {base : Nat} {v : Value} {n e : Nat} {xs : List Value} (h : w.ownsRow base e 1 v n xs) : ∃ ad cap, v = .slice ad n cap := by
  obtain ⟨_, ⟨rfl, rfl⟩ | ⟨g, cap, cur, hv, _⟩⟩ := h
  · exact ⟨none, 0, rfl⟩
  · exact ⟨_, _, hv⟩
set_option maxRecDepth 4000 in
set_option maxHeartbeats 32000000 in
theorem coarseOf_any {pb po b o cap m n by' : Nat} {l : List Int} (w : World) (rp : PtR w pb po m n (.slice (some ⟨b, o, none⟩) l.length cap)) (rsl : Rs w b o cap l) (ok : Ok l m n) (hb1 : 1 ≤ by') (hb2 : by' ≤ 128) : Calls Tryd.prog 20 #[.pointer (some ⟨pb, po, none⟩), .int .i64 (by' : Int)] w fun e w' => ∃ v, e = .returned v ∧ w'.ownsRow w.heap.size 3 1 v (many n by' * many m by') (ir (coL l m n by' (many n by' * many m by'))) ∧ Gr w w' := by
  have hm1 := ok.m1
  have hn1 := ok.n1
  have hm2 := ok.m2
  have hn2 := ok.n2
  have RP := hidb rp
  have RS := hidb rsl
  have HOk := hidb ok
  have HLn := hidb (fun k => many_lt (n := n) (by' := by') (k := k) hn1 hb1)
  have HLm := hidb (fun k => many_lt (n := m) (by' := by') (k := k) hm1 hb1)
  have HMl := hidb (show many m by' ≤ 128 ∧ many n by' ≤ 128 by have := many_le (n := n) (by' := by') hn1; have := many_le (n := m) (by' := by') hm1; omega)
  have HSn := hidb (fun rc cc h => coL_snoc (l := l) (m := m) (n := n) (by' := by') (rc := rc) (cc := cc) h)
  have HB := hidb (show 1 ≤ m ∧ m ≤ 128 ∧ 1 ≤ n ∧ n ≤ 128 ∧ 1 ≤ by' ∧ by' ≤ 128 ∧ l.length ≤ 16384 by have := ok.len_le; omega)
  have CD := hidb (fun a k h1 h2 h3 h4 W => down_any a k h1 h2 h3 h4 W)
  obtain ⟨i0, hi, hz0, hz1, hz2⟩ := info_parts infoJ
  obtain ⟨bI, hbI⟩ : ∃ q : Int, q = (by' : Int) := ⟨_, rfl⟩
  have HbI := hidb hbI
  rw [← hbI]
  generalize hWm : many m by' = Wm at *
  generalize hWn : many n by' = Wn at *
  clear rp rsl ok hm1 hn1 hm2 hn2 hb1 hb2 hbI
  have HWm := hidb hWm
  clear hWm hWn
  go_enter Tryd.func20, Tryd.ntmps20
  go_wp2
  go_loopw [5, 6] (fun v t wr => ∃ (rc : Nat) (ad : Option Addr) (cp : Nat), rc ≤ Wn ∧ t = .int .i64 ((rc * by' : Nat) : Int) ∧ v = .slice ad (rc * Wm) cp ∧ Hid (wr.ownsRow w.heap.size 3 1 v (rc * Wm) (ir (coL l m n by' (rc * Wm)))) ∧ Hid (Gr w wr)) (fun _ t _ => (256 - intOf t).toNat)
  case atStart => exact ⟨0, none, 0, Nat.zero_le _, by simp, by simp, hidb (by simpa [coL] using World.ownsRow_nil w w.heap.size 3 1), hidb (Gr.refl _)⟩
  case round =>
    obtain ⟨rc, ad, cp, hrc, rfl, rfl, HO, HG⟩ := hrel
    obtain ⟨p0, p1, p2⟩ := RP.out.below HG.out.out
    obtain ⟨r, hr⟩ : ∃ r, r = rc * by' := ⟨_, rfl⟩
    rw [← hr]
    by_cases h1 : r < n
    · have h1' : (r : Int) < (n : Int) := by omega
      obtain ⟨rb, hrb, e1⟩ : ∃ q : Int, q = (r : Int) + bI ∧ IntKind.i64.wrap ((r : Int) + bI) = q := ⟨_, rfl, wrap_in (by have := HB.out; have := HbI.out; omega) (by have := HB.out; have := HbI.out; omega)⟩
      have HRb := hidb hrb
      have HR := hidb hr
      have HRl := hidb (show rc < Wn from (HLn.out rc).1 (by rw [← hr]; exact h1))
      obtain ⟨bo, hbo⟩ : ∃ q, q = enN rc by' n := ⟨_, rfl⟩
      have HBo := hidb hbo
      have hbo2 : bo = min (r + by') n := by rw [hbo, hr]; rfl
      have hbo3 : r < bo ∧ bo ≤ n := by have := HB.out; omega
      have HBo2 := hidb hbo2
      clear hrb hr hbo hbo2
      go_wp2
      clear p0 p1 p2
      go_loopw [5, 7] (fun v t wr => ∃ (cc : Nat) (ad : Option Addr) (cp : Nat), cc ≤ Wm ∧ t = .int .i64 ((cc * by' : Nat) : Int) ∧ v = .slice ad (rc * Wm + cc) cp ∧ Hid (wr.ownsRow w.heap.size 3 1 v (rc * Wm + cc) (ir (coL l m n by' (rc * Wm + cc)))) ∧ Hid (Gr w wr)) (fun _ t _ => (256 - intOf t).toNat)
      case atStart => exact ⟨0, ad, cp, Nat.zero_le _, by simp, by simp, HO, HG⟩
      case round =>
        clear HO HG
        obtain ⟨cc, ad, cp, hcc, rfl, rfl, HO, HG⟩ := hrel
        obtain ⟨p0, p1, p2⟩ := RP.out.below HG.out.out
        obtain ⟨c, hc⟩ : ∃ r, r = cc * by' := ⟨_, rfl⟩
        rw [← hc]
        by_cases h2 : c < m
        · have h2' : (c : Int) < (m : Int) := by omega
          obtain ⟨cb, hcb, e2⟩ : ∃ q : Int, q = (c : Int) + bI ∧ IntKind.i64.wrap ((c : Int) + bI) = q := ⟨_, rfl, wrap_in (by have := HB.out; have := HbI.out; omega) (by have := HB.out; have := HbI.out; omega)⟩
          have HCb := hidb hcb
          have HC := hidb hc
          have HCl := hidb (show cc < Wm from (HLm.out cc).1 (by rw [← hc]; exact h2))
          obtain ⟨ri, hri⟩ : ∃ q, q = enN cc by' m := ⟨_, rfl⟩
          have HRi := hidb hri
          have hri2 : ri = min (c + by') m := by rw [hri, hc]; rfl
          have hri3 : c < ri ∧ ri ≤ m := by have := HB.out; omega
          have HRi2 := hidb hri2
          have HBS : Hid (∀ y, y ≤ n → -70000000000 ≤ bs l m r y c ri ∧ bs l m r y c ri ≤ 70000000000) := fun y hy => by
            have b0 := ps_bd HOk.out (c := ri) (by have := HB.out; omega) y
            have b1 := ps_bd HOk.out (c := ri) (by have := HB.out; omega) r
            have b2 := ps_bd HOk.out (c := c) (by have := HB.out; omega) y
            have b3 := ps_bd HOk.out (c := c) (by have := HB.out; omega) r
            unfold bs
            have := HB.out
            omega
          clear hcb hc hri hri2
          go_wp2
          clear p0 p1 p2
          generalize hwo : wr = wo at *
          clear hwo
          go_loopw [8, 9, 10] (fun s k t wr => ∃ (y : Nat), (r ≤ y ∧ y ≤ bo) ∧ t = .int .i64 (y : Int) ∧ s = .int .i64 (bs l m r y c ri) ∧ k = .int .i64 (((y - r) * (ri - c) : Nat) : Int) ∧ Hid (Gr wo wr)) (fun _ _ t _ => (256 - intOf t).toNat)
          case atStart => exact ⟨r, ⟨Nat.le_refl _, by omega⟩, rfl, by rw [bs_none], by simp, hidb (Gr.refl _)⟩
          case round =>
            obtain ⟨y, hy, rfl, rfl, rfl, HGi⟩ := hrel
            have HGt := hidb (Gr.step HG.out HGi.out.out)
            obtain ⟨p0, p1, p2⟩ := RP.out.below HGt.out.out
            have yb := HBS.out y (by omega)
            obtain ⟨N0, hN0⟩ : ∃ q, q = (y - r) * (ri - c) := ⟨_, rfl⟩
            have hN1 : N0 ≤ 128 * 128 := by rw [hN0]; exact Nat.mul_le_mul (by have := HB.out; omega) (by have := HB.out; omega)
            by_cases h3 : y < bo
            · have y1 : (y : Int) < rb := by have := HRb.out; have := HBo2.out; have := HbI.out; omega
              have y2 : (y : Int) < (n : Int) := by omega
              have HNext := hidb (bs_row l m r y c ri)
              have e3 : IntKind.i64.wrap ((y : Int) + 1) = ((y + 1 : Nat) : Int) := wrap_in (by omega) (by have := HB.out; omega)
              have HN0 := hidb hN0
              have HNn : Hid ((y + 1 - r) * (ri - c) = N0 + (ri - c)) := by
                show _ = _
                rw [hN0, show y + 1 - r = (y - r) + 1 by omega, Nat.add_mul, Nat.one_mul]
              generalize bs l m r y c ri = b0 at *
              rw [← hN0]
              clear hN0
              go_wp2
              clear p0 p1 p2
              generalize hwp : wr = wp at *
              clear hwp
              go_loopw [8, 9, 11] (fun s k t wr => ∃ (x : Nat), (c ≤ x ∧ x ≤ ri) ∧ t = .int .i64 (x : Int) ∧ s = .int .i64 (b0 + (rs l m y x - rs l m y c)) ∧ k = .int .i64 ((N0 + (x - c) : Nat) : Int) ∧ Hid (Gr wp wr)) (fun _ _ t _ => (256 - intOf t).toNat)
              case atStart => exact ⟨c, ⟨Nat.le_refl _, by omega⟩, rfl, by rw [show b0 + (rs l m y c - rs l m y c) = b0 by omega], by simp, hidb (Gr.refl _)⟩
              case round =>
                obtain ⟨x, hx, rfl, rfl, rfl, HGx⟩ := hrel
                have HGu := hidb (Gr.step HGt.out HGx.out.out)
                obtain ⟨p0, p1, p2⟩ := RP.out.below HGu.out.out
                by_cases h4 : x < ri
                · have x1 : (x : Int) < cb := by have := HCb.out; have := HRi2.out; have := HbI.out; omega
                  have x2 : (x : Int) < (m : Int) := by omega
                  have j0 := HOk.out.cell (c := x) (r := y) (by omega) (by omega)
                  obtain ⟨i1, hi1⟩ : ∃ i, i = y * m + x := ⟨_, rfl⟩
                  rw [← hi1] at j0
                  obtain ⟨k0, hk0, w0⟩ : ∃ z : Int, z = ((y * m : Nat) : Int) ∧ IntKind.i64.wrap ((y : Int) * (m : Int)) = z := ⟨_, rfl, by rw [← Int.natCast_mul]; exact wrap_in (by omega) (by have := HB.out; omega)⟩
                  have w1' : IntKind.i64.wrap (k0 + (x : Int)) = (i1 : Int) := by rw [show k0 + (x : Int) = (i1 : Int) by omega]; exact wrap_in (by omega) (by have := HB.out; omega)
                  have ix := iindex b o l.length cap i1 j0
                  have cI := (RS.out.below HGu.out.out).get j0
                  have r1 := rs_bd HOk.out y x
                  have r2 := rs_bd HOk.out y c
                  have r3 := HOk.out.hi i1
                  unfold hiI at r3
                  have hrs : rs l m y (x + 1) = rs l m y x + gl l i1 := by rw [hi1]; rfl
                  obtain ⟨s0, hs0⟩ : ∃ q : Int, q = b0 + (rs l m y x - rs l m y c) := ⟨_, rfl⟩
                  rw [← hs0]
                  have HS1 : Hid (s0 + gl l i1 = b0 + (rs l m y (x + 1) - rs l m y c)) := by show _ = _; rw [hrs, hs0]; omega
                  obtain ⟨s1, hs1, e4⟩ : ∃ q : Int, q = s0 + gl l i1 ∧ IntKind.i64.wrap (s0 + gl l i1) = q := ⟨_, rfl, wrap_in (by have := HB.out; omega) (by have := HB.out; omega)⟩
                  rw [← hs1] at HS1
                  obtain ⟨N1, hN1'⟩ : ∃ q, q = N0 + (x - c) := ⟨_, rfl⟩
                  rw [← hN1']
                  have HN1 := hidb (show N1 + 1 = N0 + (x + 1 - c) by omega)
                  have e5 : IntKind.i64.wrap ((N1 : Int) + 1) = ((N1 + 1 : Nat) : Int) := wrap_in (by omega) (by have := HB.out; omega)
                  have e6 : IntKind.i64.wrap ((x : Int) + 1) = ((x + 1 : Nat) : Int) := wrap_in (by omega) (by have := HB.out; omega)
                  generalize gl l i1 = xv at *
                  clear r1 r2 r3 hrs hs0 hs1 hN1' hk0 hi1 j0 yb hN1
                  go_upto_region 16 with fail
                  go_quiet (fail)
                  go_wp2
                  go_roundw
                  case rel => exact ⟨x + 1, ⟨by omega, by omega⟩, rfl, by rw [HS1.out], by have h := HN1.out; refine congrArg (Value.int .i64) ?_; omega, hidb (HGx.out.drewN _)⟩
                  case measure => have := HB.out; simp [intOf]; omega
                · have hxr : x = ri := by omega
                  have x1 : ¬ (x : Int) < cb ∨ ((x : Int) < cb ∧ ¬ (x : Int) < (m : Int)) := by have := HCb.out; have := HRi2.out; have := HbI.out; omega
                  have HS1 : Hid (b0 + (rs l m y x - rs l m y c) = bs l m r (y + 1) c ri) := by show _ = _; rw [HNext.out, hxr]
                  have HS2 : Hid (N0 + (x - c) = (y + 1 - r) * (ri - c)) := by show _ = _; rw [HNn.out, hxr]
                  clear hxr yb hN1
                  rcases x1 with x1 | ⟨x1, x2⟩
                  all_goals
                    go_wp2
                    go_roundw
                    case rel => exact ⟨y + 1, ⟨by omega, by omega⟩, rfl, by rw [HS1.out], by rw [HS2.out], hidb (Gr.step HGi.out HGx.out.out)⟩
                    case measure => have := HB.out; simp [intOf]; omega
            · have hyb : y = bo := by omega
              have y1 : ¬ (y : Int) < rb ∨ ((y : Int) < rb ∧ ¬ (y : Int) < (n : Int)) := by have := HRb.out; have := HBo2.out; have := HbI.out; omega
              have hN2 : 1 * 1 ≤ (y - r) * (ri - c) := Nat.mul_le_mul (by omega) (by omega)
              have KD := hidb (fun W => CD.out (bs l m r y c ri) (N0 : Int) (by omega) (by omega) (by omega) (by omega) W)
              have HCf : Hid (bs l m r y c ri / (N0 : Int) = cfI l m n by' rc cc) := by
                show _ = _
                unfold cfI
                rw [← HR.out, ← HC.out, ← HBo.out, ← HRi.out, ← hyb, hN0]
              have HSn2 := hidb (HSn.out rc cc HCl.out)
              rw [← HCf.out] at HSn2
              generalize bs l m r y c ri / (N0 : Int) = q0 at *
              generalize bs l m r y c ri = b0 at *
              rw [← hN0]
              have hO := own_keep HO.out HGi.out.out
              have HSt : Hid (cb = (((cc + 1) * by' : Nat) : Int)) := by show _ = _; rw [HCb.out, HbI.out, HC.out, Nat.add_mul, Nat.one_mul]; exact (Int.natCast_add _ _).symm
              have HW1 := hidb (show rc * Wm ≤ 128 * 128 from Nat.mul_le_mul (by have := HMl.out; have := HRl.out; omega) (by have := HMl.out; omega))
              have HBs := hidb HGt.out.out.size
              generalize hK : rc * Wm + cc = K at *
              have HK := hidb hK
              generalize hcl : coL l m n by' K = lc at *
              clear hyb hN2 hN1 yb hN0 hK hcl HCf
              rcases y1 with y1 | ⟨y1, y2⟩
              all_goals
                go_wp2_with fail
                refine (KD.out _).mono ?_
                rintro e w2 ⟨rfl, rfl⟩
                clear p0 p1 p2
                go_wp2_with (at_builtin; refine wpList_append_own _ rfl _ _ 25 rfl w.heap.size 3 i0 (.int .i64 0) 1 8 undI hi hz0 hz1 hz2 rfl (by decide) _ _ _ rfl (hO.alloc _) ⟨w2.heap.size, 0, none⟩ 1 1 [.int .i64 q0] rfl rfl ?c1 ?c2 ?c3 ?c4 ?c5 ?_)
                case c1 => intro j u hj; exact news1r hj (by simp [go_sem, Addr.add])
                case c2 => intro u hu; simp at hu; subst hu; rfl
                case c3 => have := HK.out; have := HW1.out; have := HMl.out; have := HCl.out; unfold maxLen; omega
                case c4 => have := HK.out; have := HW1.out; have := HMl.out; have := HCl.out; omega
                case c5 => have := HBs.out; simp; omega
                intro u2 w4 hown' hgrow _
                have HGn := hidb (gr_app HGt.out hO (Nat.le_refl _) hgrow)
                rw [ir_snoc, HSn2.out] at hown'
                have HOn := hidb hown'
                obtain ⟨ad', cap', hv'⟩ := own_shapeS hown'
                clear hgrow hown' hO
                subst hv'
                go_wp2
                go_roundw
                case rel => exact ⟨cc + 1, ad', cap', by have := HCl.out; omega, by rw [HSt.out], by rw [← HK.out]; rfl, by rw [← Nat.add_assoc, HK.out]; exact HOn, HGn⟩
                case measure => have := HB.out; have := HCb.out; have := HbI.out; simp [intOf]; omega
        · have h2' : ¬ (c : Int) < (m : Int) := by omega
          have hcw : cc = Wm := by
            have h3 : ¬ cc < Wm := fun k => h2 (by rw [hc]; exact (HLm.out cc).2 k)
            omega
          have HSt : Hid (rb = (((rc + 1) * by' : Nat) : Int)) := by show _ = _; rw [HRb.out, HbI.out, HR.out, Nat.add_mul, Nat.one_mul]; exact (Int.natCast_add _ _).symm
          have HKk : Hid (rc * Wm + cc = (rc + 1) * Wm) := by show _ = _; rw [hcw, Nat.add_mul, Nat.one_mul]
          clear hcw hc
          go_wp2
          go_roundw
          case rel => exact ⟨rc + 1, ad, cp, by have := HRl.out; omega, by rw [HSt.out], by rw [HKk.out], by rw [← HKk.out]; exact HO, HG⟩
          case measure => have := HB.out; have := HRb.out; have := HbI.out; simp [intOf]; omega
    · have h1' : ¬ (r : Int) < (n : Int) := by omega
      have hrn : rc = Wn := by
        have h2 : ¬ rc < Wn := fun k => h1 (by rw [hr]; exact (HLn.out rc).2 k)
        omega
      have HRn := hidb hrn
      clear hrn hr
      go_wp2
      go_ret
      exact ⟨_, rfl, by rw [← HRn.out]; exact HO.out, HG.out⟩
end Go.Proofs.YtphpfongdbidoaaDoor
