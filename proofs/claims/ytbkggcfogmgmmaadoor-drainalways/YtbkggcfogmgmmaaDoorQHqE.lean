/-
  container/heap's up and down over the queue.
-/
import Derived.Test.YtbkggcfogmgmmaaDoorQJ10
namespace Go.Proofs.YtbkggcfogmgmmaaDoor
open Go.RowKit

theorem half {k : Nat} (h0 : 0 < k) (hk : k ≤ 20001) : ∃ z : Int, IntKind.i64.wrap ((k : Int) - 1) = z ∧ z.tdiv 2 = (((k - 1) / 2 : Nat) : Int) ∧ IntKind.i64.wrap (((k - 1) / 2 : Nat) : Int) = (((k - 1) / 2 : Nat) : Int) := by
  refine ⟨((k - 1 : Nat) : Int), ?_, rfl, ?_⟩
  · rw [show (k : Int) - 1 = ((k - 1 : Nat) : Int) by omega]; exact wrap_in (by omega) (by omega)
  · generalize hq : (k - 1) / 2 = p
    exact wrap_in (by omega) (by omega)
set_option maxRecDepth 4000 in
set_option maxHeartbeats 8000000 in
theorem up_any {F base g cap n : Nat} {a b c d e f : Value} {q : List Wt} (j : Nat) (w : World) (hA : At w F [a, b, c, d, e, f, .slice (some ⟨g, 0, none⟩) n cap]) (hO : OW w base g cap q) (hq : n = q.length) (hj : HUp q j) (hn : n ≤ 20001) (hF : F < base) : Calls Tryd.prog 88 #[.iface 120 (.pointer (some ⟨F, 6, none⟩)), .int .i64 (j : Int)] w fun r w' => r = .returned (.tuple #[]) ∧ ∃ q', q'.Perm q ∧ Hp q' q'.length ∧ OW w' base g cap q' ∧ Onl g w w' := by
  have HA := hidb hA
  have HB := hidb (show n = q.length ∧ n ≤ 20001 ∧ F < base ∧ F ≠ g from ⟨hq, hn, hF, by have := hO.lt; omega⟩)
  have HO := hidb hO
  have HJ := hidb hj
  clear hA hO hq hj hn hF
  go_enter Tryd.func88, Tryd.ntmps88
  go_wp2
  go_loopw [1] (fun t wr => ∃ (k : Nat) (q1 : List Wt), t = .int .i64 (k : Int) ∧ Hid (HUp q1 k ∧ q1.Perm q ∧ OW wr base g cap q1 ∧ Onl g w wr)) (fun t _ => (intOf t).toNat)
  case atStart => exact ⟨j, q, rfl, hidb ⟨HJ.out, List.Perm.refl _, HO.out, Onl.refl g w⟩⟩
  case round =>
    obtain ⟨k, q1, rfl, E⟩ := hrel
    have hA1 := HA.out.onl E.out.2.2.2 HB.out.2.2.2
    have c6 := hA1.c6.1
    by_cases h0 : k = 0
    · subst h0
      have e1 : IntKind.i64.wrap (((0 : Nat) : Int) - 1) = -1 := by decide
      clear hA1
      go_wp2
      refine bodyPost_end (results_none rfl _ _ _) rfl ⟨rfl, q1, E.out.2.1, E.out.1.done (.inl rfl), E.out.2.2.1, E.out.2.2.2⟩
    · have hl := E.out.2.1.length_eq
      have hlt := E.out.1.lt
      have hb := HB.out
      obtain ⟨z, e1, e2, e3⟩ := half (k := k) (by omega) (by omega)
      have HP := hidb (show (k - 1) / 2 < k by omega)
      have HL := hidb (less_any k ((k - 1) / 2) n (by omega) hlt (by omega) wr E.out.2.2.1)
      have HS := hidb (fun W (hB : Gr wr W) => swap_any ((k - 1) / 2) k n (by omega) (by omega) hlt W (E.out.2.2.1.below hB.out))
      have HSt := hidb (fun hw => E.out.1.step (by omega) hw)
      have HSp := hidb (wsw_perm (q := q1) (i := (k - 1) / 2) (j := k) (by omega) hlt)
      have HDn := hidb (fun hw => E.out.1.done (.inr hw))
      have hne : ¬ (((k - 1) / 2 : Nat) : Int) = (k : Int) := by omega
      generalize (k - 1) / 2 = p at *
      have mL := mLess _ _ _ c6
      have HA1 := hidb hA1
      clear hA1 hl hlt hb
      by_cases hw : wlt (wx q1 k) (wx q1 p)
      · rw [decide_eq_true hw] at HL
        have HW := hidb hw
        clear hw
        go_wp2_with fail
        refine HL.out.mono ?_
        rintro r w2 ⟨rfl, hB2⟩
        have mS := mSwap _ _ _ (At.below hB2.out HA1.out).c6.1
        go_wp2_with fail
        refine (HS.out _ hB2).mono ?_
        rintro r w3 ⟨rfl, hO3, hN3⟩
        go_wp2
        go_roundw
        case rel => exact ⟨p, _, rfl, hidb ⟨HSt.out HW.out, HSp.out.trans E.out.2.1, hO3, (E.out.2.2.2.below hB2.out).trans hN3⟩⟩
        case measure => simp [intOf]; exact HP.out
      · rw [decide_eq_false hw] at HL
        have HW := hidb (HDn.out hw)
        clear hw
        go_wp2_with fail
        refine HL.out.mono ?_
        rintro r w2 ⟨rfl, hB2⟩
        go_wp2
        refine bodyPost_end (results_none rfl _ _ _) rfl ⟨rfl, q1, E.out.2.1, HW.out, E.out.2.2.1.below hB2.out, E.out.2.2.2.below hB2.out⟩
end Go.Proofs.YtbkggcfogmgmmaaDoor
