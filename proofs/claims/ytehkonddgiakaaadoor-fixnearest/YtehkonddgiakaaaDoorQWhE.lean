/-
  whole.compare.
-/
import Derived.Test.YtehkonddgiakaaaDoorQWhA
import Derived.Deep.QuietTactic
import Derived.BigQuiet
import Derived.Deep.CutRange
namespace Go.Proofs.YtehkonddgiakaaaDoor
open Go.RowKit WH

set_option maxRecDepth 4000 in
set_option maxHeartbeats 4000000 in
theorem wcmp_len (ad bd : Option Addr) (m n ca cb la lb : Nat) (h : la ≠ lb) (_h1 : la ≤ 1000) (_h2 : lb ≤ 1000) (hl : (la < lb → m < n) ∧ (lb < la → n < m)) (w : World) : Calls Tryd.prog 59 #[.slice ad la ca, .slice bd lb cb] w fun e w' => e = .returned (.int .i64 (cm m n)) ∧ Gr w w' := by
  by_cases c : la < lb
  · have HE : Hid (cm m n = -1) := by unfold cm Hid; rw [if_pos (hl.1 c)]
    clear hl
    go_enter Tryd.func59, Tryd.ntmps59
    go_wp2
    go_ret
    exact ⟨by rw [HE.out]; rfl, Gr.refl _⟩
  · have HE : Hid (cm m n = 1) := by
      have := hl.2 (by omega)
      unfold cm Hid; rw [if_neg (by omega), if_pos this]
    clear hl
    go_enter Tryd.func59, Tryd.ntmps59
    go_wp2
    go_ret
    exact ⟨by rw [HE.out]; rfl, Gr.refl _⟩
set_option maxRecDepth 4000 in
set_option maxHeartbeats 4000000 in
theorem wcmp_same (ad bd : Option Addr) (ba bb : Nat) (a b : List Nat) (ca cb : Nat) (hda : Dg a) (hdb : Dg b) (la : a.length ≤ 1000) (hlen : a.length = b.length) (w : World) (ra : Rd w w.heap.size ad ba ca a) (rb : Rd w w.heap.size bd bb cb b) :
    Calls Tryd.prog 59 #[.slice ad a.length ca, .slice bd b.length cb] w fun e w' => e = .returned (.int .i64 (cm (dv a) (dv b))) ∧ Gr w w' := by
  have HA := hidb hda
  have HB := hidb hdb
  have RA := hidb ra
  have RB := hidb rb
  clear rb ra hda hdb
  obtain ⟨n, hn⟩ : ∃ n, n = a.length := ⟨_, rfl⟩
  have hnb : b.length = n := by omega
  rw [← hn, hnb]
  have HN := hidb hn
  have HNB := hidb hnb
  rw [← hn] at la
  clear hn hnb hlen
  go_enter Tryd.func59, Tryd.ntmps59
  go_wp2
  go_loopw [5] (fun t wr => ∃ k : Nat, k ≤ n ∧ Hid (a.drop k = b.drop k) ∧ t = .int .i64 ((k : Int) - 1) ∧ Hid (Gr w wr)) (fun t _ => (intOf t + 1).toNat)
  case atStart => exact ⟨n, Nat.le_refl _, by show a.drop n = b.drop n; rw [List.drop_of_length_le (by rw [HN.out]; exact Nat.le_refl _), List.drop_of_length_le (by rw [HNB.out]; exact Nat.le_refl _)], rfl, Gr.refl _⟩
  case round =>
    obtain ⟨k, hk, HD, rfl, HG⟩ := hrel
    rcases Nat.eq_zero_or_pos k with rfl | hp
    · have HE : Hid (cm (dv a) (dv b) = 0) := by
        have : a = b := by simpa using HD.out
        unfold cm Hid; rw [this, if_neg (by omega), if_neg (by omega)]
      clear HD RA RB HA HB HN HNB
      go_wp2
      go_ret
      exact ⟨by rw [HE.out]; rfl, HG.out⟩
    · obtain ⟨j, rfl⟩ : ∃ j, k = j + 1 := ⟨k - 1, by omega⟩
      have h1 : j < a.length := by rw [← HN.out]; omega
      have h2 : j < b.length := by rw [HNB.out]; omega
      have ho : Onl w.heap.size w wr := ⟨HG.out.1, HG.out.2, HG.out.3, HG.out.4, fun k hk _ => HG.out.5 k hk⟩
      have cella := RA.out.cell h1 ho
      have cellb := RB.out.cell h2 ho
      have ixa := RA.out.ix j h1
      have ixb := RB.out.ix j h2
      rw [← HN.out] at ixa
      rw [HNB.out] at ixb
      have ej : ((j + 1 : Nat) : Int) - 1 = (j : Int) := by omega
      rw [ej]
      have HC1 : Hid (a[j] < b[j] → cm (dv a) (dv b) = -1) := fun h => by
        unfold cm; rw [if_pos (dv_cmp HA.out HB.out h1 h2 HD.out h)]
      have HC2 : Hid (b[j] < a[j] → cm (dv a) (dv b) = 1) := fun h => by
        have := dv_cmp HB.out HA.out h2 h1 HD.out.symm h
        unfold cm; rw [if_neg (by omega), if_pos this]
      have HC3 : Hid (a[j] = b[j] → a.drop j = b.drop j) := fun h => drop_step h1 h2 HD.out h
      have hj0 : (0 : Int) ≤ (j : Int) := by omega
      clear HD RA RB HA HB HN HNB ho
      generalize a[j] = x at *
      generalize b[j] = y at *
      by_cases c1 : x < y
      · have HE := hidb (HC1.out c1)
        go_upto_region 8 with fail
        go_quiet (fail)
        go_wp2_with fail
        go_quiet (fail)
        go_wp2
        go_ret
        exact ⟨by rw [HE.out]; rfl, (HG.out.drewN _).drewN _⟩
      · by_cases c2 : y < x
        · have HE := hidb (HC2.out c2)
          go_upto_region 8 with fail
          go_quiet (fail)
          go_wp2_with fail
          go_quiet (fail)
          go_wp2
          go_ret
          exact ⟨by rw [HE.out]; rfl, (HG.out.drewN _).drewN _⟩
        · have hxy : x = y := by omega
          have HE := hidb (HC3.out hxy)
          subst hxy
          go_upto_region 8 with fail
          go_quiet (fail)
          go_wp2
          go_roundw
          case rel => exact ⟨j, by omega, HE.out, by go_num, HG.out.drewN _⟩
          case measure => simp [intOf]
theorem wlen_lt {m n : Nat} (h : (dn m).length < (dn n).length) : m < n := by
  rcases Nat.lt_or_ge m n with c | c
  · exact c
  · have := dn_len_mono c; omega
/-- How great the numbers are that are spoken of. -/
def wlid : Nat := 18446744073709551616 ^ 100
theorem wlid_len {n : Nat} (h : n < wlid) : (dn n).length ≤ 100 := dn_len_le h
theorem wcmp_any {w : World} {u v : Value} {m n : Nat} (lm : m < wlid) (ln : n < wlid) (ha : Pt w u (dn m)) (hb : Pt w v (dn n)) : Calls Tryd.prog 59 #[u, v] w fun e w' => e = .returned (.int .i64 (cm m n)) ∧ Gr w w' := by
  obtain ⟨ad, ba, ca, rfl, ra⟩ := ha.rd0
  obtain ⟨bd, bb, cb, rfl, rb⟩ := hb.rd0
  have l1 := wlid_len lm
  have l2 := wlid_len ln
  by_cases c : (dn m).length = (dn n).length
  · have := wcmp_same ad bd ba bb (dn m) (dn n) ca cb (dn_dg m) (dn_dg n) (by omega) c w ra rb
    rw [dv_dn, dv_dn] at this
    exact this
  · exact wcmp_len ad bd m n ca cb _ _ c (by omega) (by omega) ⟨fun h => wlen_lt h, fun h => wlen_lt h⟩ w
end Go.Proofs.YtehkonddgiakaaaDoor
