/-
  mercatorref3.great, RasterError, RastersError; mercatorlaw3.small, nothing, sameInts, is.
-/
import Derived.Test.YtbkggcfogmgmmaaDoorQFdA
namespace Go.Proofs.YtbkggcfogmgmmaaDoor
open Go.RowKit

/-- A raster that a pointer points to. -/
structure PtR (w : World) (pb po : Nat) (W H : Int) (v : Value) : Prop where
  c0 : w.cell? ⟨pb, po, none⟩ = some (.int .i64 W)
  c1 : w.cell? ⟨pb, po + 1, none⟩ = some (.int .i64 H)
  c2 : w.cell? ⟨pb, po + 2, none⟩ = some v
theorem PtR.below {w w' : World} {pb po : Nat} {W H : Int} {v : Value} (hB : Below w.heap.size w w') (h : PtR w pb po W H v) : PtR w' pb po W H v := by
  have hb : pb < w.heap.size := lt_of_cell h.c0
  have e := fun j => hB.cell (p := ⟨pb, j, none⟩) hb
  exact ⟨(e _).trans h.c0, (e _).trans h.c1, (e _).trans h.c2⟩
theorem great_any (x : Int) (w : World) : Calls Tryd.prog 38 #[.int .i64 x] w fun e w' => e = .returned (.bool (decide (¬ hiI x))) ∧ w' = w := by
  by_cases c1 : 1048576 < x
  · rw [decide_eq_true (show ¬ hiI x from fun h => by have := h.2; omega)]
    go_enter Tryd.func38, Tryd.ntmps38
    go_wp2
    go_ret
    exact ⟨rfl, rfl⟩
  · by_cases c2 : x < -1048576
    · rw [decide_eq_true (show ¬ hiI x from fun h => by have := h.1; omega)]
      go_enter Tryd.func38, Tryd.ntmps38
      go_wp2
      go_ret
      exact ⟨rfl, rfl⟩
    · rw [decide_eq_false (show ¬ ¬ hiI x from fun h => h ⟨by omega, by omega⟩)]
      go_enter Tryd.func38, Tryd.ntmps38
      go_wp2
      go_ret
      exact ⟨rfl, rfl⟩
set_option maxRecDepth 4000 in
set_option maxHeartbeats 4000000 in
theorem rasterError_any (pb po : Nat) (W H : Int) (ad : Option Addr) (b o cap : Nat) (l : List Int) (w : World) (hp : PtR w pb po W H (.slice ad l.length cap)) (h : ISl w ad b o cap l) (ll : l.length ≤ 20000) : Calls Tryd.prog 14 #[.pointer (some ⟨pb, po, none⟩)] w fun e w' => e = .returned (.int .i64 (vcode W H l : Int)) ∧ Gr w w' := by
  have HR := hidb h
  have HP := hidb hp
  obtain ⟨p0, p1, p2⟩ := hp
  clear h
  by_cases c : 128 < W ∨ 128 < H
  · have HE : Hid (vcode W H l = 2) := by unfold vcode Hid; rw [if_pos c]
    by_cases c1 : 128 < W
    all_goals
      (first | (have c2 : 128 < H := c.resolve_left c1) | skip)
      clear c
      go_enter Tryd.func14, Tryd.ntmps14
      go_wp2
      go_ret
      exact ⟨by rw [HE.out]; rfl, Gr.refl _⟩
  · have c1 : ¬ 128 < W := fun h => c (.inl h)
    have c2 : ¬ 128 < H := fun h => c (.inr h)
    have HC := hidb c
    clear c
    by_cases d : (W < 1 ∨ H < 1) ∨ ¬ (l.length : Int) = W * H
    · have HE : Hid (vcode W H l = 3) := by unfold vcode Hid; rw [if_neg HC.out, if_pos d]
      by_cases d1 : W < 1
      · clear d HC
        go_enter Tryd.func14, Tryd.ntmps14
        go_upto_region 3 with fail
        go_quiet (fail)
        go_wp2
        go_ret
        exact ⟨by rw [HE.out]; rfl, by first | exact Gr.refl _ | exact (Gr.refl _).drewN _ | exact (Gr.refl _).drew⟩
      · by_cases d2 : H < 1
        · clear d HC
          go_enter Tryd.func14, Tryd.ntmps14
          go_upto_region 3 with fail
          go_quiet (fail)
          go_wp2
          go_ret
          exact ⟨by rw [HE.out]; rfl, by first | exact Gr.refl _ | exact (Gr.refl _).drewN _ | exact (Gr.refl _).drew⟩
        · have d3 : ¬ (l.length : Int) = W * H := d.resolve_left (by omega)
          have b1 := side_mul (W := W) (H := H) (by omega) (by omega) (by omega) (by omega)
          have e1 : IntKind.i64.wrap (W * H) = W * H := wrap_in (by omega) (by omega)
          clear d HC b1
          go_enter Tryd.func14, Tryd.ntmps14
          go_upto_region 3 with fail
          go_quiet (fail)
          go_wp2
          go_ret
          exact ⟨by rw [HE.out]; rfl, by first | exact Gr.refl _ | exact (Gr.refl _).drewN _ | exact (Gr.refl _).drew⟩
    · have d1 : ¬ W < 1 := fun h => d (.inl (.inl h))
      have d2 : ¬ H < 1 := fun h => d (.inl (.inr h))
      have d3 : (l.length : Int) = W * H := Classical.not_not.1 (fun h => d (.inr h))
      have e1 : IntKind.i64.wrap (W * H) = (l.length : Int) := by rw [← d3]; exact wrap_in (by omega) (by omega)
      have HD := hidb d
      clear d d3
      go_enter Tryd.func14, Tryd.ntmps14
      go_upto_region 3 with fail
      go_quiet (fail)
      go_wp2
      clear p0 p1 p2
      generalize hw1 : World.drewN w _ = w1
      have HW : Hid (Gr w w1) := by rw [← hw1]; exact (Gr.refl w).drewN _
      clear hw1
      go_loopw [3] (fun t wr => ∃ (k : Nat), k ≤ l.length ∧ t = .int .i64 (k : Int) ∧ Hid (∀ r ∈ l.take k, hiI r) ∧ wr = w1) (fun t _ => l.length - (intOf t).toNat)
      case atStart => exact ⟨0, Nat.zero_le _, rfl, (by intro r hr; simp at hr), rfl⟩
      case round =>
        obtain ⟨k, hk, rfl, HK, rfl⟩ := hrel
        obtain ⟨p0, p1, p2⟩ := HP.out.below HW.out.out
        by_cases h1 : k < l.length
        · have c0 := (HR.out.below HW.out.out).cell h1
          have ix := HR.out.ix k h1
          have HOK := hidb (fun ho => hi_step h1 HK.out ho)
          have HNO : Hid (¬ hiI l[k] → vcode W H l = 4) := fun hn => by
            unfold vcode; rw [if_neg HC.out, if_neg HD.out, if_neg (fun ha => hn (ha _ (List.getElem_mem h1)))]
          generalize l[k] = x at *
          have HP := hidb (fun w => great_any x w)
          by_cases d4 : hiI x
          · rw [decide_eq_false (fun h => h d4)] at HP
            have HE := hidb (HOK.out d4)
            clear d4
            go_wp2_with fail
            refine (HP.out _).mono ?_
            rintro e w2 ⟨rfl, rfl⟩
            go_wp2
            go_roundw
            case rel => exact ⟨k + 1, by omega, by go_num, HE.out, by first | exact trivial | rfl⟩
            case measure => simp [intOf]; omega
          · rw [decide_eq_true d4] at HP
            have HE := hidb (HNO.out d4)
            clear d4
            go_wp2_with fail
            refine (HP.out _).mono ?_
            rintro e w2 ⟨rfl, rfl⟩
            go_wp2
            go_ret
            exact ⟨by rw [HE.out]; rfl, HW.out⟩
        · have HE : Hid (vcode W H l = 0) := by
            have ha := HK.out
            rw [List.take_of_length_le (by omega)] at ha
            show _ = _
            unfold vcode; rw [if_neg HC.out, if_neg HD.out, if_pos ha]
          go_wp2
          go_ret
          exact ⟨by rw [HE.out]; rfl, HW.out⟩
end Go.Proofs.YtbkggcfogmgmmaaDoor
