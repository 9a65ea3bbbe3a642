/-
  mercatorref3.AroundOf (FaF.tpl, once for each kind).
-/
import Derived.Test.YtphpfongdbidoaaDoorQFaF
namespace Go.Proofs.YtphpfongdbidoaaDoor
open Go.RowKit

set_option maxRecDepth 4000 in
set_option maxHeartbeats 16000000 in
theorem aroundOf2 {pb po b o cap m n rch cell : Nat} {l : List Int} (w : World) (rp : PtR w pb po m n (.slice (some ⟨b, o, none⟩) l.length cap)) (rsl : Rs w b o cap l) (ok : Ok l m n) (hcl : cell < l.length) (hr : rch ≤ 128) : Calls Tryd.prog 33 #[.pointer (some ⟨pb, po, none⟩), .int .i64 (cell : Int), .int .i64 (rch : Int), .int .i64 2] w fun e w' => e = .returned (.int .i64 (blB false l m n rch (cell / m) (cell % m))) ∧ Gr w w' := by
  have RP := hidb rp
  have RS := hidb rsl
  have HOk := hidb ok
  have hm1 := ok.m1
  have hlm := ok.len_le
  obtain ⟨t1, t2, t3, t4⟩ := nat_q (x := (cell : Int)) (d := (m : Int)) rfl rfl (by omega)
  have hyc : cell / m < n := (Nat.div_lt_iff_lt_mul (by omega)).2 (by have := ok.len; rw [Nat.mul_comm] at this; omega)
  have hxc : cell % m < m := Nat.mod_lt _ (by omega)
  have hce : cell / m * m + cell % m = cell := by rw [Nat.mul_comm]; exact Nat.div_add_mod _ _
  obtain ⟨yc, hyc0⟩ : ∃ q, q = cell / m := ⟨_, rfl⟩
  obtain ⟨xc, hxc0⟩ : ∃ q, q = cell % m := ⟨_, rfl⟩
  rw [← hyc0] at t1 t3 hyc hce ⊢
  rw [← hxc0] at t2 t4 hxc hce ⊢
  have HB := hidb (show 1 ≤ m ∧ m ≤ 128 ∧ 1 ≤ n ∧ n ≤ 128 ∧ rch ≤ 128 ∧ l.length ≤ 16384 ∧ yc < n ∧ xc < m from ⟨ok.m1, ok.m2, ok.n1, ok.n2, hr, hlm, hyc, hxc⟩)
  obtain ⟨t, ht⟩ : ∃ q, q = yc - rch := ⟨_, rfl⟩
  obtain ⟨bo, hbo⟩ : ∃ q, q = hbN yc rch n := ⟨_, rfl⟩
  obtain ⟨le, hle⟩ : ∃ q, q = xc - rch := ⟨_, rfl⟩
  obtain ⟨ri, hri⟩ : ∃ q, q = hbN xc rch m := ⟨_, rfl⟩
  have hbo2 : bo = min (yc + rch + 1) n := hbo
  have hri2 : ri = min (xc + rch + 1) m := hri
  have HE := hidb (show (t = yc - rch ∧ bo = min (yc + rch + 1) n) ∧ (le = xc - rch ∧ ri = min (xc + rch + 1) m) from ⟨⟨ht, hbo2⟩, hle, hri2⟩)
  have HT := hidb (show (t < bo ∧ bo ≤ n) ∧ (le < ri ∧ ri ≤ m) by omega)
  have HR : Hid (bs l m t bo le ri / (((bo - t) * (ri - le) : Nat) : Int) = arI l m n rch yc xc) := by
    show _ = _
    unfold arI
    rw [← ht, ← hbo, ← hle, ← hri]
  have HS : Hid (BsF true l m n rch yc xc 0 0 (gl l cell) ∧ BsF false l m n rch yc xc 0 0 (gl l cell)) := by
    rw [← hce]
    exact ⟨BsF.start hyc hxc, BsF.start hyc hxc⟩
  have HBS : Hid (∀ y x, y ≤ n → x ≤ m → -140000000000 ≤ bs l m t y le ri ∧ bs l m t y le ri ≤ 140000000000 ∧ -140000000 ≤ rs l m y x ∧ rs l m y x ≤ 140000000) := fun y x hy hx => by
    have hT := HT.out
    have bb := HB.out
    have b0 := ps_bd ok (c := ri) (by omega) y
    have b1 := ps_bd ok (c := ri) (by omega) t
    have b2 := ps_bd ok (c := le) (by omega) y
    have b3 := ps_bd ok (c := le) (by omega) t
    have b4 := rs_bd ok y x
    unfold bs
    omega
  have ix := iindex b o l.length cap cell hcl
  have HCell := hidb (fun (W : World) (hG : Gr w W) => (rsl.below hG.out).get hcl)
  have CD := hidb (fun a k h1 h2 h3 h4 W => down_any a k h1 h2 h3 h4 W)
  obtain ⟨rI, hrI⟩ : ∃ q : Int, q = (rch : Int) := ⟨_, rfl⟩
  have HrI := hidb hrI
  rw [← hrI]
  have z0 : ¬ (m : Int) = 0 := by omega
  obtain ⟨p0, p1, p2⟩ := rp
  have cC := rsl.get hcl
  clear rsl ok hcl hr hm1 hlm hyc hxc hce hyc0 hxc0 ht hbo hle hri hbo2 hri2 hrI
  generalize gl l cell = cv at *
  go_enter Tryd.func33, Tryd.ntmps33
  go_wp2
  clear p0 p1 p2 cC ix t1 t2 t3 t4 z0
  go_loopw [11, 12, 13, 14] (fun s k v q wr => ∃ (y : Nat) (bv : Int), y ≤ n ∧ q = .int .i64 (y : Int) ∧ s = .int .i64 (bs l m t (min (max y t) bo) le ri) ∧ k = .int .i64 (((min (max y t) bo - t) * (ri - le) : Nat) : Int) ∧ v = .int .i64 bv ∧ Hid (BsF false l m n rch yc xc y 0 bv) ∧ Hid (Gr w wr)) (fun _ _ _ q _ => (256 - intOf q).toNat)
  case atStart => exact ⟨0, cv, Nat.zero_le _, rfl, by have := HT.out; rw [show min (max 0 t) bo = t by omega, bs_none], by have := HT.out; rw [show min (max 0 t) bo = t by omega, Nat.sub_self, Nat.zero_mul]; rfl, rfl, hidb HS.out.2, hidb (Gr.refl _)⟩
  case round =>
    obtain ⟨y, bv, hy, rfl, rfl, rfl, rfl, HI, HG⟩ := hrel
    obtain ⟨p0, p1, p2⟩ := RP.out.below HG.out.out
    have bb := HB.out
    by_cases h1 : y < n
    · have h1' : (y : Int) < (n : Int) := by omega
      have e0 : IntKind.i64.wrap ((y : Int) + 1) = ((y + 1 : Nat) : Int) := wrap_in (by omega) (by omega)
      obtain ⟨dy, hdy, e1⟩ : ∃ q : Int, q = (y : Int) - (yc : Int) ∧ IntKind.i64.wrap ((y : Int) - (yc : Int)) = q := ⟨_, rfl, wrap_in (by omega) (by omega)⟩
      obtain ⟨ey, hey, e2⟩ : ∃ q : Int, q = (yc : Int) - (y : Int) ∧ IntKind.i64.wrap ((yc : Int) - (y : Int)) = q := ⟨_, rfl, wrap_in (by omega) (by omega)⟩
      by_cases hin : t ≤ y ∧ y < bo
      · have n1 : ¬ rI < dy := by have := HrI.out; have := HE.out; omega
        have n2 : ¬ rI < ey := by have := HrI.out; have := HE.out; omega
        have hcl : min (max y t) bo = y := by omega
        have hnx : min (max (y + 1) t) bo = y + 1 := by omega
        have HNx := hidb hnx
        rw [hcl]
        have HY := hidb hin
        have HNr := hidb (show nr rch yc y by have := HE.out; exact ⟨by omega, by omega⟩)
        have HRow := hidb (bs_row l m t y le ri)
        have hN1 : (y - t) * (ri - le) ≤ 128 * 128 := Nat.mul_le_mul (by omega) (by have := HT.out; omega)
        have HNn : Hid ((y + 1 - t) * (ri - le) = (y - t) * (ri - le) + (ri - le)) := by
          show _ = _
          rw [show y + 1 - t = (y - t) + 1 by omega, Nat.add_mul, Nat.one_mul]
        have HSb := hidb (HBS.out y 0 hy (Nat.zero_le _))
        obtain ⟨N0, hN0⟩ : ∃ q, q = (y - t) * (ri - le) := ⟨_, rfl⟩
        rw [← hN0] at hN1 HNn ⊢
        have HN1 := hidb hN1
        generalize bs l m t y le ri = b0 at *
        clear hdy hey bb hcl hnx hin hN0 hN1
        go_wp2
        clear p0 p1 p2
        go_loopw [11, 12, 13, 15] (fun s k v q wr => ∃ (x : Nat) (bv : Int), x ≤ m ∧ q = .int .i64 (x : Int) ∧ s = .int .i64 (b0 + (rs l m y (min (max x le) ri) - rs l m y le)) ∧ k = .int .i64 ((N0 + (min (max x le) ri - le) : Nat) : Int) ∧ v = .int .i64 bv ∧ Hid (BsF false l m n rch yc xc y x bv) ∧ Hid (Gr w wr)) (fun _ _ _ q _ => (256 - intOf q).toNat)
        case atStart => exact ⟨0, bv, Nat.zero_le _, rfl, by have := HT.out; rw [show min (max 0 le) ri = le by omega, Int.sub_self, Int.add_zero], by have := HT.out; rw [show min (max 0 le) ri = le by omega, Nat.sub_self, Nat.add_zero], rfl, HI, HG⟩
        case round =>
          clear HI HG
          obtain ⟨x, bv, hx, rfl, rfl, rfl, rfl, HI, HG⟩ := hrel
          obtain ⟨p0, p1, p2⟩ := RP.out.below HG.out.out
          have bb := HB.out
          by_cases h2 : x < m
          · have h2' : (x : Int) < (m : Int) := by omega
            have e6 : IntKind.i64.wrap ((x : Int) + 1) = ((x + 1 : Nat) : Int) := wrap_in (by omega) (by omega)
            obtain ⟨dx, hdx, e3⟩ : ∃ q : Int, q = (x : Int) - (xc : Int) ∧ IntKind.i64.wrap ((x : Int) - (xc : Int)) = q := ⟨_, rfl, wrap_in (by omega) (by omega)⟩
            obtain ⟨ex, hex, e4⟩ : ∃ q : Int, q = (xc : Int) - (x : Int) ∧ IntKind.i64.wrap ((xc : Int) - (x : Int)) = q := ⟨_, rfl, wrap_in (by omega) (by omega)⟩
            by_cases hix : le ≤ x ∧ x < ri
            · have n3 : ¬ rI < dx := by have := HrI.out; have := HE.out; omega
              have n4 : ¬ rI < ex := by have := HrI.out; have := HE.out; omega
              rw [show min (max x le) ri = x by omega]
              have j0 := HOk.out.cell h2 h1
              obtain ⟨i1, hi1⟩ : ∃ i, i = y * m + x := ⟨_, rfl⟩
              rw [← hi1] at j0
              obtain ⟨k0, hk0, w0⟩ : ∃ z : Int, z = ((y * m : Nat) : Int) ∧ IntKind.i64.wrap ((y : Int) * (m : Int)) = z := ⟨_, rfl, by rw [← Int.natCast_mul]; exact wrap_in (by omega) (by omega)⟩
              have w1' : IntKind.i64.wrap (k0 + (x : Int)) = (i1 : Int) := by rw [show k0 + (x : Int) = (i1 : Int) by omega]; exact wrap_in (by omega) (by omega)
              have ix := iindex b o l.length cap i1 j0
              have cI := (RS.out.below HG.out.out).get j0
              have r1 := HBS.out y x hy hx
              have r2 := HBS.out y le hy (by have := HT.out; omega)
              have r3 := HOk.out.hi i1
              unfold hiI at r3
              have sb := HSb.out
              obtain ⟨s0, hs0⟩ : ∃ q : Int, q = b0 + (rs l m y x - rs l m y le) := ⟨_, rfl⟩
              rw [← hs0]
              obtain ⟨s1, hs1, e5⟩ : ∃ q : Int, q = s0 + gl l i1 ∧ IntKind.i64.wrap (s0 + gl l i1) = q := ⟨_, rfl, wrap_in (by omega) (by omega)⟩
              have HS1 : Hid (s1 = b0 + (rs l m y (min (max (x + 1) le) ri) - rs l m y le)) := by
                show _ = _
                rw [show min (max (x + 1) le) ri = x + 1 by omega, hs1, hs0, show rs l m y (x + 1) = rs l m y x + gl l (y * m + x) from rfl, ← hi1]
                omega
              obtain ⟨Nk, hNk⟩ : ∃ q, q = N0 + (x - le) := ⟨_, rfl⟩
              rw [← hNk]
              have e7 : IntKind.i64.wrap ((Nk : Int) + 1) = ((Nk + 1 : Nat) : Int) := wrap_in (by omega) (by have := HN1.out; omega)
              have HNk : Hid (Nk + 1 = N0 + (min (max (x + 1) le) ri - le)) := by show _ = _; omega
              have HX := hidb (show nr rch xc x by have := HE.out; exact ⟨by omega, by omega⟩)
              by_cases hb : gl l i1 < bv
              · have HI2 : Hid (BsF false l m n rch yc xc y (x + 1) (gl l i1)) := by
                  rw [hi1]
                  rw [hi1] at hb
                  exact HI.out.turn h1 h2 HNr.out HX.out (by simp [lq]; omega)
                generalize gl l i1 = hv at *
                clear hk0 hi1 hs0 hs1 hNk j0 r1 r2 r3 sb hdx hex bb HI hix
                go_upto_region 13 with fail
                go_quiet (fail)
                go_wp2
                go_roundw
                case rel => exact ⟨x + 1, _, by omega, rfl, by rw [HS1.out], by have h := HNk.out; refine congrArg (Value.int .i64) ?_; omega, rfl, HI2, hidb (HG.out.drewN _)⟩
                case measure => have := HB.out; simp [intOf]; omega
              · have HI2 : Hid (BsF false l m n rch yc xc y (x + 1) bv) := by
                  rw [hi1] at hb
                  exact HI.out.keep (by simp [lq]; omega)
                generalize gl l i1 = hv at *
                clear hk0 hi1 hs0 hs1 hNk j0 r1 r2 r3 sb hdx hex bb HI hix
                go_upto_region 13 with fail
                go_quiet (fail)
                go_wp2
                go_roundw
                case rel => exact ⟨x + 1, _, by omega, rfl, by rw [HS1.out], by have h := HNk.out; refine congrArg (Value.int .i64) ?_; omega, rfl, HI2, hidb (HG.out.drewN _)⟩
                case measure => have := HB.out; simp [intOf]; omega
            · have HS1 : Hid (min (max x le) ri = min (max (x + 1) le) ri) := by show _ = _; omega
              have HI2 : Hid (BsF false l m n rch yc xc y (x + 1) bv) := HI.out.skip (fun y' x' _ _ c d e => by obtain ⟨d1, d2⟩ := d; have := HE.out; omega)
              rw [HS1.out]
              have c1 : rI < dx ∨ (¬ rI < dx ∧ rI < ex) := by have := HrI.out; have := HE.out; omega
              obtain ⟨sv, hsv⟩ : ∃ q : Int, q = b0 + (rs l m y (min (max (x + 1) le) ri) - rs l m y le) := ⟨_, rfl⟩
              obtain ⟨nv, hnv⟩ : ∃ q, q = N0 + (min (max (x + 1) le) ri - le) := ⟨_, rfl⟩
              rw [← hsv, ← hnv]
              have HSV := hidb hsv
              have HNV := hidb hnv
              clear hdx hex bb HI hix hsv hnv
              rcases c1 with c1 | ⟨c1, c2⟩
              all_goals
                go_wp2
                go_roundw
                case rel => exact ⟨x + 1, bv, by omega, rfl, by rw [HSV.out], by rw [HNV.out], rfl, HI2, HG⟩
                case measure => have := HB.out; simp [intOf]; omega
          · have h2' : ¬ (x : Int) < (m : Int) := by omega
            have hxm : x = m := by omega
            have hT := HT.out
            have HS1 : Hid (b0 + (rs l m y (min (max x le) ri) - rs l m y le) = bs l m t (min (max (y + 1) t) bo) le ri) := by
              show _ = _
              rw [HNx.out, HRow.out, show min (max x le) ri = ri by omega]
            have HS2 : Hid (N0 + (min (max x le) ri - le) = (min (max (y + 1) t) bo - t) * (ri - le)) := by
              show _ = _
              rw [HNx.out, HNn.out, show min (max x le) ri = ri by omega]
            have HI2 : Hid (BsF false l m n rch yc xc (y + 1) 0 bv) := HI.out.skip (fun y' x' _ _ c d e => by omega)
            rw [HS1.out, HS2.out]
            obtain ⟨sv, hsv⟩ : ∃ q : Int, q = bs l m t (min (max (y + 1) t) bo) le ri := ⟨_, rfl⟩
            obtain ⟨nv, hnv⟩ : ∃ q, q = (min (max (y + 1) t) bo - t) * (ri - le) := ⟨_, rfl⟩
            rw [← hsv, ← hnv]
            have HSV := hidb hsv
            have HNV := hidb hnv
            clear hxm hT bb HI hx h2 hsv hnv
            go_wp2
            go_roundw
            case rel => exact ⟨y + 1, bv, by omega, rfl, by rw [HSV.out], by rw [HNV.out], rfl, HI2, HG⟩
            case measure => have := HB.out; simp [intOf]; omega
      · have c1 : rI < dy ∨ (¬ rI < dy ∧ rI < ey) := by have := HrI.out; have := HE.out; omega
        have HS1 : Hid (min (max y t) bo = min (max (y + 1) t) bo) := by show _ = _; have := HT.out; omega
        have HI2 : Hid (BsF false l m n rch yc xc (y + 1) 0 bv) := HI.out.skip (fun y' x' a _ c d e => by obtain ⟨c1, c2⟩ := c; have := HE.out; omega)
        rw [HS1.out]
        obtain ⟨sv, hsv⟩ : ∃ q : Int, q = bs l m t (min (max (y + 1) t) bo) le ri := ⟨_, rfl⟩
        obtain ⟨nv, hnv⟩ : ∃ q, q = (min (max (y + 1) t) bo - t) * (ri - le) := ⟨_, rfl⟩
        rw [← hsv, ← hnv]
        have HSV := hidb hsv
        have HNV := hidb hnv
        clear hdy hey bb hin hsv hnv
        rcases c1 with c1 | ⟨c1, c2⟩
        all_goals
          go_wp2
          clear p0 p1 p2
          go_loopw [11, 12, 13, 15] (fun s k v q wr => ∃ (x : Nat), x ≤ m ∧ q = .int .i64 (x : Int) ∧ s = .int .i64 sv ∧ k = .int .i64 (nv : Int) ∧ v = .int .i64 bv ∧ Hid (Gr w wr)) (fun _ _ _ q _ => (256 - intOf q).toNat)
          case atStart => exact ⟨0, Nat.zero_le _, rfl, rfl, rfl, rfl, HG⟩
          case round =>
            clear HG
            obtain ⟨x, hx, rfl, rfl, rfl, rfl, HG⟩ := hrel
            obtain ⟨p0, p1, p2⟩ := RP.out.below HG.out.out
            by_cases h2 : x < m
            · have h2' : (x : Int) < (m : Int) := by omega
              have e6 : IntKind.i64.wrap ((x : Int) + 1) = ((x + 1 : Nat) : Int) := wrap_in (by omega) (by have := HB.out; omega)
              clear hx
              go_wp2
              go_roundw
              case rel => exact ⟨x + 1, by omega, rfl, rfl, rfl, rfl, HG⟩
              case measure => have := HB.out; simp [intOf]; omega
            · have h2' : ¬ (x : Int) < (m : Int) := by omega
              clear hx h2
              go_wp2
              go_roundw
              case rel => exact ⟨y + 1, bv, by omega, rfl, by rw [HSV.out], by rw [HNV.out], rfl, HI2, HG⟩
              case measure => have := HB.out; simp [intOf]; omega
    · have h1' : ¬ (y : Int) < (n : Int) := by omega
      have hyn : y = n := by omega
      have hT := HT.out
      rw [show min (max y t) bo = bo by omega]
      have HV : Hid (bv = blB false l m n rch yc xc) := by
        show _ = _
        have h := HI.out
        rw [hyn] at h
        exact h.done (by omega) (by omega)
      generalize bs l m t bo le ri = sv at *
      generalize (bo - t) * (ri - le) = nv at *
      clear hyn hT bb hy h1
      go_wp2
      go_ret
      exact ⟨by rw [← HV.out]; rfl, HG.out⟩
end Go.Proofs.YtphpfongdbidoaaDoor
