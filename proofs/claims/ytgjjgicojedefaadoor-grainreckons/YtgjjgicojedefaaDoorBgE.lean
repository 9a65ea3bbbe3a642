/-
  mercatorref1.BigCmp.
-/
import Derived.Test.YtgjjgicojedefaaDoorBgD
import Derived.Deep.QuietTactic
import Derived.BigQuiet
import Derived.Deep.CutRange
namespace Go.Proofs.YtgjjgicojedefaaDoor
open Go.RowKit BG

/-- -1, 0, 1. -/
def cm (m n : Nat) : Int := if m < n then -1 else if n < m then 1 else 0
theorem below_dn {W w : World} {n : Nat} (h : Below W.heap.size W w) : Below W.heap.size W (w.drewN n) := ⟨h.1, h.2, h.3, h.4, h.5⟩
theorem drop_step {a b : List Nat} {j : Nat} (h1 : j < a.length) (h2 : j < b.length) (he : a.drop (j + 1) = b.drop (j + 1)) (h : a[j] = b[j]) : a.drop j = b.drop j := by
  rw [List.drop_eq_getElem_cons h1, List.drop_eq_getElem_cons h2, he, h]
set_option maxRecDepth 4000 in
set_option maxHeartbeats 4000000 in
theorem bigCmp_len (ad bd : Option Addr) (m n ca cb la lb : Nat) (h : la ≠ lb) (_h1 : la ≤ 400) (_h2 : lb ≤ 400) (hl : (la < lb → m < n) ∧ (lb < la → n < m)) (w : World) : Calls Tryd.prog 40 #[.slice ad la ca, .slice bd lb cb] w fun e w' => e = .returned (.int .i64 (cm m n)) ∧ Below w.heap.size w w' := by
  by_cases c : la < lb
  · have HE : Hid (cm m n = -1) := by unfold cm Hid; rw [if_pos (hl.1 c)]
    clear hl
    go_enter Tryd.func40, Tryd.ntmps40
    go_wp2
    go_ret
    exact ⟨by rw [HE.out]; rfl, Below.refl _ _⟩
  · have HE : Hid (cm m n = 1) := by
      have := hl.2 (by omega)
      unfold cm Hid; rw [if_neg (by omega), if_pos this]
    clear hl
    go_enter Tryd.func40, Tryd.ntmps40
    go_wp2
    go_ret
    exact ⟨by rw [HE.out]; rfl, Below.refl _ _⟩
set_option maxRecDepth 4000 in
set_option maxHeartbeats 4000000 in
theorem bigCmp_same (ad bd : Option Addr) (ba bb : Nat) (a b : List Nat) (ca cb : Nat) (hda : Dg a) (hdb : Dg b) (la : a.length ≤ 400) (hlen : a.length = b.length) (w : World) (ra : Row w ba a ∨ a = []) (rb : Row w bb b ∨ b = [])
    (ia : ∀ k : Nat, k < a.length → ∀ w, (Instr.indexAt 36 (.slice ad a.length ca) (.int .i64 k)).run Tryd.prog w = .ok (.pointer (some ⟨ba, k, none⟩)) w)
    (ib : ∀ k : Nat, k < b.length → ∀ w, (Instr.indexAt 36 (.slice bd b.length cb) (.int .i64 k)).run Tryd.prog w = .ok (.pointer (some ⟨bb, k, none⟩)) w) :
    Calls Tryd.prog 40 #[.slice ad a.length ca, .slice bd b.length cb] w fun e w' => e = .returned (.int .i64 (cm (dv a) (dv b))) ∧ Below w.heap.size w w' := by
  have HA := hidb hda
  have HB := hidb hdb
  have RA := hidb ra
  have RB := hidb rb
  have IA := hidb ia
  have IB := hidb ib
  clear ib ia rb ra hda hdb
  obtain ⟨n, hn⟩ : ∃ n, n = a.length := ⟨_, rfl⟩
  have hnb : b.length = n := by omega
  rw [← hn, hnb]
  have HN := hidb hn
  have HNB := hidb hnb
  rw [← hn] at la
  clear hn hnb hlen
  go_enter Tryd.func40, Tryd.ntmps40
  go_wp2
  go_loopw [5] (fun t wr => ∃ k : Nat, k ≤ n ∧ Hid (a.drop k = b.drop k) ∧ t = .int .i64 ((k : Int) - 1) ∧ Below w.heap.size w wr) (fun t _ => (intOf t + 1).toNat)
  case atStart => exact ⟨n, Nat.le_refl _, by show a.drop n = b.drop n; rw [List.drop_of_length_le (by rw [HN.out]; exact Nat.le_refl _), List.drop_of_length_le (by rw [HNB.out]; exact Nat.le_refl _)], rfl, Below.refl _ _⟩
  case round =>
    obtain ⟨k, hk, HD, rfl, hB⟩ := hrel
    rcases Nat.eq_zero_or_pos k with rfl | hp
    · have HE : Hid (cm (dv a) (dv b) = 0) := by
        have : a = b := by simpa using HD.out
        unfold cm Hid; rw [this, if_neg (by omega), if_neg (by omega)]
      clear HD IA IB RA RB HA HB HN HNB
      go_wp2
      go_ret
      exact ⟨by rw [HE.out]; rfl, hB⟩
    · obtain ⟨j, rfl⟩ : ∃ j, k = j + 1 := ⟨k - 1, by omega⟩
      have h1 : j < a.length := by rw [← HN.out]; omega
      have h2 : j < b.length := by rw [HNB.out]; omega
      have na : a ≠ [] := by intro e; rw [e] at h1; simp at h1
      have nb : b ≠ [] := by intro e; rw [e] at h2; simp at h2
      have cella := ((RA.out.resolve_right na).below hB).1 j h1
      have cellb := ((RB.out.resolve_right nb).below hB).1 j h2
      have ixa := IA.out j h1
      have ixb := IB.out j h2
      rw [← HN.out] at ixa
      rw [HNB.out] at ixb
      have ej : ((j + 1 : Nat) : Int) - 1 = (j : Int) := by omega
      rw [ej]
      have HC1 : Hid (a[j] < b[j] → cm (dv a) (dv b) = -1) := fun h => by
        unfold cm; rw [if_pos (dv_cmp HA.out HB.out h1 h2 HD.out h)]
      have HC2 : Hid (b[j] < a[j] → cm (dv a) (dv b) = 1) := fun h => by
        have := dv_cmp HB.out HA.out h2 h1 HD.out.symm h
        unfold cm; rw [if_neg (by omega), if_pos this]
      have HC3 : Hid (a[j] = b[j] → a.drop j = b.drop j) := fun h => drop_step h1 h2 HD.out h
      have hj0 : (0 : Int) ≤ (j : Int) := by omega
      clear HD IA IB RA RB HA HB HN HNB na nb
      generalize a[j] = x at *
      generalize b[j] = y at *
      by_cases c1 : x < y
      · have HE := hidb (HC1.out c1)
        go_upto_region 8 with fail
        go_quiet (fail)
        go_wp2
        go_ret
        exact ⟨by rw [HE.out]; rfl, below_dn hB⟩
      · by_cases c2 : y < x
        · have HE := hidb (HC2.out c2)
          go_upto_region 8 with fail
          go_quiet (fail)
          go_wp2_with fail
          go_quiet (fail)
          go_wp2
          go_ret
          exact ⟨by rw [HE.out]; rfl, (by first | exact below_dn hB | exact below_dn (below_dn hB))⟩
        · have HE := hidb (HC3.out (by omega))
          go_upto_region 8 with fail
          go_quiet (fail)
          go_wp2_with fail
          go_quiet (fail)
          go_wp2
          go_roundw
          case rel => exact ⟨j, by omega, HE.out, by go_num, (by first | exact below_dn hB | exact below_dn (below_dn hB))⟩
          case measure => simp [intOf]
/-- Canonical rows: the longer one is the greater. -/
theorem len_lt {m n : Nat} (h : (dn m).length < (dn n).length) : m < n := by
  rcases Nat.lt_or_ge m n with c | c
  · exact c
  · have := dn_len_mono c; omega
theorem bigCmp_any {w : World} {u v : Value} {m n : Nat} (lm : (dn m).length ≤ 400) (ln : (dn n).length ≤ 400) (ha : Bg w u (dn m)) (hb : Bg w v (dn n)) : Calls Tryd.prog 40 #[u, v] w fun e w' => e = .returned (.int .i64 (cm m n)) ∧ Below w.heap.size w w' := by
  obtain ⟨ad, ba, ca, rfl, ra, ia⟩ : ∃ ad ba ca, u = .slice ad (dn m).length ca ∧ (Row w ba (dn m) ∨ dn m = []) ∧ ∀ k : Nat, k < (dn m).length → ∀ w, (Instr.indexAt 36 (.slice ad (dn m).length ca) (.int .i64 k)).run Tryd.prog w = .ok (.pointer (some ⟨ba, k, none⟩)) w := by
    rcases ha with ⟨rfl, h⟩ | ⟨ba, ca, rfl, _, _, ra⟩
    · exact ⟨none, 0, 0, by rw [h]; rfl, .inr h, fun k hk => by rw [h] at hk; simp at hk⟩
    · exact ⟨_, ba, ca, rfl, .inl ra, fun k hk w => index_row ba _ ca k hk w⟩
  obtain ⟨bd, bb, cb, rfl, rb, ib⟩ : ∃ ad ba ca, v = .slice ad (dn n).length ca ∧ (Row w ba (dn n) ∨ dn n = []) ∧ ∀ k : Nat, k < (dn n).length → ∀ w, (Instr.indexAt 36 (.slice ad (dn n).length ca) (.int .i64 k)).run Tryd.prog w = .ok (.pointer (some ⟨ba, k, none⟩)) w := by
    rcases hb with ⟨rfl, h⟩ | ⟨ba, ca, rfl, _, _, ra⟩
    · exact ⟨none, 0, 0, by rw [h]; rfl, .inr h, fun k hk => by rw [h] at hk; simp at hk⟩
    · exact ⟨_, ba, ca, rfl, .inl ra, fun k hk w => index_row ba _ ca k hk w⟩
  by_cases c : (dn m).length = (dn n).length
  · have := bigCmp_same ad bd ba bb (dn m) (dn n) ca cb (dn_dg m) (dn_dg n) lm c w ra rb ia ib
    rw [dv_dn, dv_dn] at this
    exact this
  · exact bigCmp_len ad bd m n ca cb _ _ c lm ln ⟨fun h => len_lt h, fun h => len_lt h⟩ w
end Go.Proofs.YtgjjgicojedefaaDoor
