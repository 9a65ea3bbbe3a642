/-
  container/heap's down over the queue.; container/heap's Push and Pop over the queue.
-/
import Derived.Test.YtlhligeicnejbaaDoorQJ7
namespace Go.Proofs.YtlhligeicnejbaaDoor
open Go.RowKit

set_option maxRecDepth 4000 in
set_option maxHeartbeats 16000000 in
theorem down_any {F base g cap n m : Nat} {a b c d e f : Value} {q : List Wt} (w : World) (hA : At w F [a, b, c, d, e, f, .slice (some ⟨g, 0, none⟩) n cap]) (hO : OW w base g cap q) (hq : n = q.length) (hj : HDn q 0 m) (hn : n ≤ 20001) (hF : F < base) : Calls Tryd.prog 58 #[.iface 107 (.pointer (some ⟨F, 6, none⟩)), .int .i64 0, .int .i64 (m : Int)] w fun r w' => ∃ t : Value, r = .returned t ∧ ∃ q', q'.Perm q ∧ Hp q' m ∧ OW w' base g cap q' ∧ Onl g w w' ∧ ∀ x, m ≤ x → wx q' x = wx q x := by
  have HA := hidb hA
  have HB := hidb (show n = q.length ∧ n ≤ 20001 ∧ F < base ∧ F ≠ g ∧ m ≤ n from ⟨hq, hn, hF, by have := hO.lt; omega, by have := hj.le; omega⟩)
  have HO := hidb hO
  have HJ := hidb hj
  clear hA hO hq hj hn hF
  go_enter Tryd.func58, Tryd.ntmps58
  go_wp2
  go_loopw [7] (fun t wr => ∃ (k : Nat) (q1 : List Wt), t = .int .i64 (k : Int) ∧ Hid (HDn q1 k m ∧ q1.Perm q ∧ OW wr base g cap q1 ∧ Onl g w wr ∧ ∀ x, m ≤ x → wx q1 x = wx q x) ∧ Hid (k ≤ n)) (fun t _ => m - (intOf t).toNat)
  case atStart => exact ⟨0, q, rfl, hidb ⟨HJ.out, List.Perm.refl _, HO.out, Onl.refl g w, fun _ _ => rfl⟩, hidb (Nat.zero_le _)⟩
  case round =>
    clear HJ HO
    obtain ⟨k, q1, rfl, E, HK⟩ := hrel
    have HA1 := hidb (HA.out.onl E.out.2.2.2.1 HB.out.2.2.2.1)
    have c6 := HA1.out.c6.1
    have HLn := hidb E.out.2.1.length_eq
    obtain ⟨u, hu, e1⟩ : ∃ z : Int, z = ((2 * k : Nat) : Int) ∧ IntKind.i64.wrap (2 * (k : Int)) = z := ⟨_, rfl, by rw [show 2 * (k : Int) = ((2 * k : Nat) : Int) by omega]; exact wrap_in (by have := HB.out; have := HK.out; omega) (by have := HB.out; have := HK.out; omega)⟩
    obtain ⟨j1, h1, e2⟩ : ∃ z : Int, z = ((2 * k + 1 : Nat) : Int) ∧ IntKind.i64.wrap (u + 1) = z := ⟨_, rfl, by rw [hu, show ((2 * k : Nat) : Int) + 1 = ((2 * k + 1 : Nat) : Int) by omega]; exact wrap_in (by have := HB.out; have := HK.out; omega) (by have := HB.out; have := HK.out; omega)⟩
    obtain ⟨j2, h2, e3⟩ : ∃ z : Int, z = ((2 * k + 2 : Nat) : Int) ∧ IntKind.i64.wrap (j1 + 1) = z := ⟨_, rfl, by rw [h1, show ((2 * k + 1 : Nat) : Int) + 1 = ((2 * k + 2 : Nat) : Int) by omega]; exact wrap_in (by have := HB.out; have := HK.out; omega) (by have := HB.out; have := HK.out; omega)⟩
    have H1 := hidb h1
    have H2 := hidb h2
    have n1 : ¬ j1 < 0 := by omega
    clear hu
    by_cases hm : (m : Int) ≤ j1
    · have HW := hidb (E.out.1.leaf (by omega))
      clear h1 h2
      go_wp2
      go_ret
      exact ⟨⟨_, rfl⟩, q1, E.out.2.1, HW.out, E.out.2.2.1, E.out.2.2.2.1, E.out.2.2.2.2⟩
    · have HCh := hidb (wch_at (q := q1) (i := k) (n := m) (by omega))
      by_cases hm2 : j2 < (m : Int)
      · have HL := hidb (less_any (2 * k + 2) (2 * k + 1) n (by have := HB.out; have := HLn.out; omega) (by have := HB.out; have := HLn.out; omega) (by have := HB.out; have := HLn.out; omega) wr E.out.2.2.1)
        rw [← h1, ← h2] at HL
        have hm2' : 2 * k + 2 < m := by omega
        clear h1 h2
        have mL := mLess _ _ _ c6
        by_cases hc : wlt (wx q1 (2 * k + 2)) (wx q1 (2 * k + 1))
        · have HJ : Hid (wch q1 k m = 2 * k + 2) := by show _ = _; unfold wch; rw [if_pos ⟨hm2', hc⟩]
          rw [decide_eq_true hc] at HL
          clear hc hm2'
          go_wp2_with fail
          refine HL.out.mono ?_
          rintro r w2 ⟨rfl, G2⟩
          clear mL
          have mL := mLess _ _ _ (At.below G2.out HA1.out).c6.1
          have HL2 := hidb (fun W (hB : Gr wr W) => less_any (wch q1 k m) k n (by have := HB.out; have := HLn.out; omega) (by have := HB.out; have := HLn.out; have := HCh.out; omega) (by have := HB.out; have := HLn.out; have := HCh.out; omega) W (E.out.2.2.1.below hB.out))
          have HS := hidb (fun W (hB : Gr wr W) => swap_any k (wch q1 k m) n (by have := HB.out; have := HLn.out; omega) (by have := HB.out; have := HLn.out; have := HCh.out; omega) (by have := HB.out; have := HLn.out; have := HCh.out; omega) W (E.out.2.2.1.below hB.out))
          have HSp := hidb (wsw_perm (q := q1) (i := k) (j := wch q1 k m) (by have := HB.out; have := HLn.out; have := HCh.out; omega) (by have := HB.out; have := HLn.out; have := HCh.out; omega))
          have HWx := hidb (fun x => wsw_wx (q := q1) (i := k) (j := wch q1 k m) (by have := HB.out; have := HLn.out; have := HCh.out; omega) (by have := HB.out; have := HLn.out; have := HCh.out; omega) x)
          have HSt := hidb (fun hw => E.out.1.step (by have := HB.out; have := HCh.out; omega) hw)
          have HDn := hidb (fun hw => E.out.1.stop hw)
          have HJe : Hid (((wch q1 k m : Nat) : Int) = j2) := by
            show _ = _
            rw [HJ.out, H2.out]
          rw [HJe.out] at HL2 HS
          have HCh2 := HCh
          have HRl : Hid (j2 = ((wch q1 k m : Nat) : Int)) := HJe.out.symm
          generalize wch q1 k m = jj at *
          clear HJ
          by_cases hw : wlt (wx q1 jj) (wx q1 k)
          · rw [decide_eq_true hw] at HL2
            have HW := hidb hw
            clear hw
            go_wp2_with fail
            refine (HL2.out _ G2).mono ?_
            rintro r w4 ⟨rfl, hB4⟩
            have mS := mSwap _ _ _ (At.below hB4.out (At.below G2.out HA1.out)).c6.1
            go_wp2_with fail
            refine (HS.out _ (Gr.step G2 hB4.out)).mono ?_
            rintro r w5 ⟨rfl, hO5, hN5⟩
            go_wp2
            go_roundw
            case rel =>
              refine ⟨jj, _, by rw [HRl.out], hidb ⟨HSt.out HW.out, HSp.out.trans E.out.2.1, hO5, (E.out.2.2.2.1.below (Gr.step G2 hB4.out).out).trans hN5, fun x hx => ?_⟩, hidb (by have := HCh.out; have := HB.out; omega)⟩
              rw [HWx.out, if_neg (by have := HCh.out; omega), if_neg (by have := HCh.out; omega)]
              exact E.out.2.2.2.2 x hx
            case measure =>
              have h1 := HCh.out
              have h2 := HRl.out
              simp [intOf]
              omega
          · rw [decide_eq_false hw] at HL2
            have HW := hidb (HDn.out hw)
            clear hw
            go_wp2_with fail
            refine (HL2.out _ G2).mono ?_
            rintro r w4 ⟨rfl, hB4⟩
            go_wp2
            go_ret
            exact ⟨_, rfl, q1, E.out.2.1, HW.out, E.out.2.2.1.below (Gr.step G2 hB4.out).out, E.out.2.2.2.1.below (Gr.step G2 hB4.out).out, E.out.2.2.2.2⟩
        · have HJ : Hid (wch q1 k m = 2 * k + 1) := by show _ = _; unfold wch; rw [if_neg (fun h => hc h.2)]
          rw [decide_eq_false hc] at HL
          clear hc hm2'
          go_wp2_with fail
          refine HL.out.mono ?_
          rintro r w2 ⟨rfl, G2⟩
          clear mL
          have mL := mLess _ _ _ (At.below G2.out HA1.out).c6.1
          have HL2 := hidb (fun W (hB : Gr wr W) => less_any (wch q1 k m) k n (by have := HB.out; have := HLn.out; omega) (by have := HB.out; have := HLn.out; have := HCh.out; omega) (by have := HB.out; have := HLn.out; have := HCh.out; omega) W (E.out.2.2.1.below hB.out))
          have HS := hidb (fun W (hB : Gr wr W) => swap_any k (wch q1 k m) n (by have := HB.out; have := HLn.out; omega) (by have := HB.out; have := HLn.out; have := HCh.out; omega) (by have := HB.out; have := HLn.out; have := HCh.out; omega) W (E.out.2.2.1.below hB.out))
          have HSp := hidb (wsw_perm (q := q1) (i := k) (j := wch q1 k m) (by have := HB.out; have := HLn.out; have := HCh.out; omega) (by have := HB.out; have := HLn.out; have := HCh.out; omega))
          have HWx := hidb (fun x => wsw_wx (q := q1) (i := k) (j := wch q1 k m) (by have := HB.out; have := HLn.out; have := HCh.out; omega) (by have := HB.out; have := HLn.out; have := HCh.out; omega) x)
          have HSt := hidb (fun hw => E.out.1.step (by have := HB.out; have := HCh.out; omega) hw)
          have HDn := hidb (fun hw => E.out.1.stop hw)
          have HJe : Hid (((wch q1 k m : Nat) : Int) = j1) := by
            show _ = _
            rw [HJ.out, H1.out]
          rw [HJe.out] at HL2 HS
          have HCh2 := HCh
          have HRl : Hid (j1 = ((wch q1 k m : Nat) : Int)) := HJe.out.symm
          generalize wch q1 k m = jj at *
          clear HJ
          by_cases hw : wlt (wx q1 jj) (wx q1 k)
          · rw [decide_eq_true hw] at HL2
            have HW := hidb hw
            clear hw
            go_wp2_with fail
            refine (HL2.out _ G2).mono ?_
            rintro r w4 ⟨rfl, hB4⟩
            have mS := mSwap _ _ _ (At.below hB4.out (At.below G2.out HA1.out)).c6.1
            go_wp2_with fail
            refine (HS.out _ (Gr.step G2 hB4.out)).mono ?_
            rintro r w5 ⟨rfl, hO5, hN5⟩
            go_wp2
            go_roundw
            case rel =>
              refine ⟨jj, _, by rw [HRl.out], hidb ⟨HSt.out HW.out, HSp.out.trans E.out.2.1, hO5, (E.out.2.2.2.1.below (Gr.step G2 hB4.out).out).trans hN5, fun x hx => ?_⟩, hidb (by have := HCh.out; have := HB.out; omega)⟩
              rw [HWx.out, if_neg (by have := HCh.out; omega), if_neg (by have := HCh.out; omega)]
              exact E.out.2.2.2.2 x hx
            case measure =>
              have h1 := HCh.out
              have h2 := HRl.out
              simp [intOf]
              omega
          · rw [decide_eq_false hw] at HL2
            have HW := hidb (HDn.out hw)
            clear hw
            go_wp2_with fail
            refine (HL2.out _ G2).mono ?_
            rintro r w4 ⟨rfl, hB4⟩
            go_wp2
            go_ret
            exact ⟨_, rfl, q1, E.out.2.1, HW.out, E.out.2.2.1.below (Gr.step G2 hB4.out).out, E.out.2.2.2.1.below (Gr.step G2 hB4.out).out, E.out.2.2.2.2⟩
      · have HJ : Hid (wch q1 k m = 2 * k + 1) := by show _ = _; unfold wch; rw [if_neg (fun h => by have := h.1; omega)]
        clear h1 h2
        have G2 := Gr.refl wr
        have mL := mLess _ _ _ c6
        have HL2 := hidb (fun W (hB : Gr wr W) => less_any (wch q1 k m) k n (by have := HB.out; have := HLn.out; omega) (by have := HB.out; have := HLn.out; have := HCh.out; omega) (by have := HB.out; have := HLn.out; have := HCh.out; omega) W (E.out.2.2.1.below hB.out))
        have HS := hidb (fun W (hB : Gr wr W) => swap_any k (wch q1 k m) n (by have := HB.out; have := HLn.out; omega) (by have := HB.out; have := HLn.out; have := HCh.out; omega) (by have := HB.out; have := HLn.out; have := HCh.out; omega) W (E.out.2.2.1.below hB.out))
        have HSp := hidb (wsw_perm (q := q1) (i := k) (j := wch q1 k m) (by have := HB.out; have := HLn.out; have := HCh.out; omega) (by have := HB.out; have := HLn.out; have := HCh.out; omega))
        have HWx := hidb (fun x => wsw_wx (q := q1) (i := k) (j := wch q1 k m) (by have := HB.out; have := HLn.out; have := HCh.out; omega) (by have := HB.out; have := HLn.out; have := HCh.out; omega) x)
        have HSt := hidb (fun hw => E.out.1.step (by have := HB.out; have := HCh.out; omega) hw)
        have HDn := hidb (fun hw => E.out.1.stop hw)
        have HJe : Hid (((wch q1 k m : Nat) : Int) = j1) := by
          show _ = _
          rw [HJ.out, H1.out]
        rw [HJe.out] at HL2 HS
        have HCh2 := HCh
        have HRl : Hid (j1 = ((wch q1 k m : Nat) : Int)) := HJe.out.symm
        generalize wch q1 k m = jj at *
        clear HJ
        by_cases hw : wlt (wx q1 jj) (wx q1 k)
        · rw [decide_eq_true hw] at HL2
          have HW := hidb hw
          clear hw
          go_wp2_with fail
          refine (HL2.out _ G2).mono ?_
          rintro r w4 ⟨rfl, hB4⟩
          have mS := mSwap _ _ _ (At.below hB4.out (At.below G2.out HA1.out)).c6.1
          go_wp2_with fail
          refine (HS.out _ (Gr.step G2 hB4.out)).mono ?_
          rintro r w5 ⟨rfl, hO5, hN5⟩
          go_wp2
          go_roundw
          case rel =>
            refine ⟨jj, _, by rw [HRl.out], hidb ⟨HSt.out HW.out, HSp.out.trans E.out.2.1, hO5, (E.out.2.2.2.1.below (Gr.step G2 hB4.out).out).trans hN5, fun x hx => ?_⟩, hidb (by have := HCh.out; have := HB.out; omega)⟩
            rw [HWx.out, if_neg (by have := HCh.out; omega), if_neg (by have := HCh.out; omega)]
            exact E.out.2.2.2.2 x hx
          case measure =>
            have h1 := HCh.out
            have h2 := HRl.out
            simp [intOf]
            omega
        · rw [decide_eq_false hw] at HL2
          have HW := hidb (HDn.out hw)
          clear hw
          go_wp2_with fail
          refine (HL2.out _ G2).mono ?_
          rintro r w4 ⟨rfl, hB4⟩
          go_wp2
          go_ret
          exact ⟨_, rfl, q1, E.out.2.1, HW.out, E.out.2.2.1.below (Gr.step G2 hB4.out).out, E.out.2.2.2.1.below (Gr.step G2 hB4.out).out, E.out.2.2.2.2⟩
end Go.Proofs.YtlhligeicnejbaaDoor
namespace Go.Proofs.YtlhligeicnejbaaDoor
open Go.RowKit

set_option maxRecDepth 4000 in
set_option maxHeartbeats 8000000 in
theorem hpush_any {F base n : Nat} {a b c d e f v : Value} {q : List Wt} (p : Wt) (w : World) (hA : At w F [a, b, c, d, e, f, v]) (hO : w.ownsRow base 109 2 v n (qr q)) (hq : q.length = n) (hn : n ≤ 20000) (hF : F < base) (hb : base ≤ w.heap.size) (hp : Hp q n) : Calls Tryd.prog 50 #[.iface 107 (.pointer (some ⟨F, 6, none⟩)), .iface 109 (.agg #[.int .i64 p.1, .int .i64 (p.2 : Int)])] w fun r w' => r = .returned (.tuple #[]) ∧ ∃ g cap q', At w' F [a, b, c, d, e, f, .slice (some ⟨g, 0, none⟩) (n + 1) cap] ∧ OW w' base g cap q' ∧ q'.Perm (q ++ [p]) ∧ Hp q' (n + 1) ∧ Fr F v w w' ∧ (v.ownBlock = some g ∨ w.heap.size ≤ g) := by
  have HP := hidb (qpush_any p w hA hO hq hn hF hb)
  have mP := mPush ⟨F, 6, none⟩
  have HH : Hid (HUp (q ++ [p]) n) := by have := Hp.push (q := q) (by rw [hq]; exact hp) p; rw [hq] at this; exact this
  have HB := hidb (show q.length = n ∧ n ≤ 20000 ∧ F < base from ⟨hq, hn, hF⟩)
  have e1 : IntKind.i64.wrap (((n + 1 : Nat) : Int) - 1) = (n : Int) := by rw [show ((n + 1 : Nat) : Int) - 1 = (n : Int) by omega]; exact wrap_in (by omega) (by omega)
  clear hA hO hq hn hF hb hp
  go_enter Tryd.func50, Tryd.ntmps50
  go_wp2_with fail
  refine HP.out.mono ?_
  rintro r w1 ⟨rfl, g, cap, hA1, hO1, hF1, hg1⟩
  have mL := mLen _ _ _ hA1.c6.1
  have HU := hidb (up_any n w1 hA1 hO1 (by have := HB.out; simp; omega) HH.out (by have := HB.out; omega) HB.out.2.2)
  have HX := hidb (show At w1 F [a, b, c, d, e, f, .slice (some ⟨g, 0, none⟩) (n + 1) cap] ∧ Fr F v w w1 ∧ (v.ownBlock = some g ∨ w.heap.size ≤ g) ∧ F ≠ g from ⟨hA1, hF1, hg1, by have := hO1.lt; have := HB.out; omega⟩)
  generalize hnn : ((n + 1 : Nat) : Int) = nI at *
  clear hA1 hO1 hF1 hg1 HP mP
  go_wp2_with (first | (go_at_call 38; refine (len_any _ _ _ _).mono ?_; rintro r w9 ⟨rfl, rfl⟩) | fail)
  refine HU.out.mono ?_
  rintro r w2 ⟨rfl, q', hp', hh', hO', hN'⟩
  go_wp2
  refine bodyPost_end (results_none rfl _ _ _) rfl ⟨rfl, g, cap, q', ?_, hO', hp', ?_, ?_, HX.out.2.2.1⟩
  · exact HX.out.1.onl hN' HX.out.2.2.2
  · have := hp'.length_eq
    rw [this, List.length_append, HB.out.1] at hh'
    exact hh'
  · exact HX.out.2.1.trans (hN'.fr (F := F) (n := 0) (cap := 0)) (fun i hi => by
      have e : g = i := by simpa [Value.ownBlock] using hi
      rw [← e]; exact HX.out.2.2.1)
set_option maxRecDepth 4000 in
set_option maxHeartbeats 8000000 in
theorem hpop_any {F base g cap n : Nat} {a b c d e f : Value} {q : List Wt} (w : World) (hA : At w F [a, b, c, d, e, f, .slice (some ⟨g, 0, none⟩) (n + 1) cap]) (hO : OW w base g cap q) (hq : q.length = n + 1) (hn : n ≤ 20000) (hF : F < base) (hp : Hp q (n + 1)) : Calls Tryd.prog 51 #[.iface 107 (.pointer (some ⟨F, 6, none⟩))] w fun r w' => r = .returned (.iface 109 (.agg #[.int .i64 (wx q 0).1, .int .i64 ((wx q 0).2 : Int)])) ∧ ∃ q', At w' F [a, b, c, d, e, f, .slice (some ⟨g, 0, none⟩) n cap] ∧ OW w' base g cap (q'.take n) ∧ q'.Perm q ∧ Hp q' n ∧ wx q' n = wx q 0 ∧ Fr F (.slice (some ⟨g, 0, none⟩) n cap) w w' := by
  have mL := mLen _ _ _ hA.c6.1
  have mS := mSwap _ _ _ hA.c6.1
  have HS := hidb (swap_any 0 n (n + 1) hq.symm (by omega) (by omega) w hO)
  have HP := hidb (Hp.pop hp hq)
  have HX := hidb (show At w F [a, b, c, d, e, f, .slice (some ⟨g, 0, none⟩) (n + 1) cap] ∧ F ≠ g ∧ F < base ∧ n ≤ 20000 ∧ q.length = n + 1 ∧ (wsw q 0 n).Perm q ∧ wx (wsw q 0 n) n = wx q 0 from ⟨hA, by have := hO.lt; omega, hF, hn, hq, wsw_perm (by omega) (by omega), by rw [wsw_wx (by omega) (by omega), if_pos rfl]⟩)
  have e1 : IntKind.i64.wrap (((n + 1 : Nat) : Int) - 1) = (n : Int) := by rw [show ((n + 1 : Nat) : Int) - 1 = (n : Int) by omega]; exact wrap_in (by omega) (by omega)
  have HL := hidb (fun w => len_any (some ⟨g, 0, none⟩) (n + 1) cap w)
  obtain ⟨root, hroot⟩ : ∃ z, z = wx q 0 := ⟨_, rfl⟩
  rw [← hroot] at HX ⊢
  generalize hnn : ((n + 1 : Nat) : Int) = nI at *
  clear hA hO hq hn hF hp hroot hnn
  go_enter Tryd.func51, Tryd.ntmps51
  go_wp2_with (first | (go_at_call 38; refine (HL.out _).mono ?_; rintro r w9 ⟨rfl, rfl⟩) | fail)
  refine HS.out.mono ?_
  rintro r w1 ⟨rfl, hO1, hN1⟩
  have hA1 := HX.out.1.onl hN1 HX.out.2.1
  have HD := hidb (down_any w1 hA1 hO1 (by rw [wsw_len]; have := HX.out; omega) HP.out (by have := HX.out; omega) HX.out.2.2.1)
  have HA1 := hidb hA1
  have HN1 := hidb hN1
  clear hA1 hO1 hN1 mL mS HS
  go_wp2_with fail
  refine HD.out.mono ?_
  rintro r w2 ⟨t, rfl, q2, hp2, hh2, hO2, hN2, hx2⟩
  have hl2 : q2.length = n + 1 := by rw [hp2.length_eq, wsw_len]; exact HX.out.2.2.2.2.1
  have HQ := hidb (qpop_any w2 (HA1.out.onl hN2 HX.out.2.1) hO2 hl2 HX.out.2.2.2.1 HX.out.2.2.1)
  have hr : wx q2 n = root := by rw [hx2 n (Nat.le_refl _)]; exact HX.out.2.2.2.2.2.2
  rw [hr] at HQ
  have HZ := hidb (show q2.Perm q ∧ Hp q2 n ∧ wx q2 n = root ∧ Fr F (.slice (some ⟨g, 0, none⟩) n cap) w9 w2 from ⟨hp2.trans HX.out.2.2.2.2.2.1, hh2, hr, (HN1.out.trans hN2).fr⟩)
  have mP := mPop ⟨F, 6, none⟩
  clear hp2 hh2 hO2 hN2 hx2 hl2 hr HD HA1 HN1
  go_wp2_with fail
  refine HQ.out.mono ?_
  rintro r w3 ⟨rfl, hA3, hO3, hN3⟩
  go_wp2
  go_ret
  exact ⟨rfl, q2, hA3, hO3, HZ.out.1, HZ.out.2.1, HZ.out.2.2.1, HZ.out.2.2.2.trans hN3.frF (fun i hi => .inl hi)⟩
end Go.Proofs.YtlhligeicnejbaaDoor
