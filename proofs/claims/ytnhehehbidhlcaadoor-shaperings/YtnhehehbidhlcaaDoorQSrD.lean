/-
  mercatorref5: IsSimple.
-/
import Derived.Test.YtnhehehbidhlcaaDoorQSrC
namespace Go.Proofs.YtnhehehbidhlcaaDoor
open Go.RowKit
attribute [local go_sem ↓] Go.wp_at_zero Go.wp_at_succ

/-- Two edges that a simple ring has not. -/
def bdP (l : List Sp) (k i : Nat) : Prop := cmN (sx l k) (sx l ((k + 1) % l.length)) (sx l i) (sx l ((i + 1) % l.length)) = 2 ∨ (cmN (sx l k) (sx l ((k + 1) % l.length)) (sx l i) (sx l ((i + 1) % l.length)) = 1 ∧ ¬ (k + 1 = i ∧ cmA (sx l k) (sx l ((k + 1) % l.length)) (sx l i) (sx l ((i + 1) % l.length)) = sx l ((k + 1) % l.length)) ∧ ¬ ((i + 1) % l.length = k ∧ cmA (sx l k) (sx l ((k + 1) % l.length)) (sx l i) (sx l ((i + 1) % l.length)) = sx l k))
instance (l : List Sp) (k i : Nat) : Decidable (bdP l k i) := by unfold bdP; exact inferInstance
def smP (l : List Sp) : Prop := ∀ i, i < l.length → ∀ k, k < i → ¬ bdP l k i
instance (l : List Sp) : Decidable (smP l) := by unfold smP; exact inferInstance
theorem cmN_two (p q r s : Sp) : cmN p q r s = 0 ∨ cmN p q r s = 1 ∨ cmN p q r s = 2 := by
  unfold cmN
  split
  · exact .inr (.inr rfl)
  · split
    · exact .inr (.inl rfl)
    · split
      · exact .inr (.inr rfl)
      · exact .inl rfl
set_option maxRecDepth 4000 in
set_option maxHeartbeats 16000000 in
theorem isSimple_any {ad : Option Addr} {b o cap : Nat} {l : List Sp} (l3 : 3 ≤ l.length) (ll : l.length ≤ 4000) (hok : ∀ i, i < l.length → okS (sx l i)) (w : World) (h : SSl w ad b o cap l) : Calls Tryd.prog 13 #[.slice ad l.length cap] w fun e w' => e = .returned (.bool (decide (smP l))) ∧ Gr w w' := by
  generalize hr : decide (smP l) = res
  have HT : Hid (smP l → res = true) := fun hh => by rw [← hr]; exact decide_eq_true hh
  have HF : Hid (∀ i, i < l.length → ∀ k, k < i → bdP l k i → res = false) := fun i hi k hk hb => by rw [← hr]; exact decide_eq_false (fun hh => hh i hi k hk hb)
  have HR := hidb h
  have HCm := hidb (fun k (hk : k < l.length) i (hi : i < l.length) w => common_any (hok k hk) (hok _ (nxm_lt hk)) (hok i hi) (hok _ (nxm_lt hi)) w)
  have HSm : Hid (smP l ↔ ∀ i, i < l.length → ∀ k, k < i → ¬ bdP l k i) := Iff.rfl
  have HBd : Hid (∀ k i, bdP l k i ↔ (cmN (sx l k) (sx l ((k + 1) % l.length)) (sx l i) (sx l ((i + 1) % l.length)) = 2 ∨ (cmN (sx l k) (sx l ((k + 1) % l.length)) (sx l i) (sx l ((i + 1) % l.length)) = 1 ∧ ¬ (k + 1 = i ∧ cmA (sx l k) (sx l ((k + 1) % l.length)) (sx l i) (sx l ((i + 1) % l.length)) = sx l ((k + 1) % l.length)) ∧ ¬ ((i + 1) % l.length = k ∧ cmA (sx l k) (sx l ((k + 1) % l.length)) (sx l i) (sx l ((i + 1) % l.length)) = sx l k)))) := fun k i => Iff.rfl
  clear hr hok
  obtain ⟨n, hn⟩ : ∃ n, n = l.length := ⟨_, rfl⟩
  have HX := hidb (fun k (hk : k < n) => h.ix k (by rw [← hn]; exact hk))
  have HNn := hidb hn
  rw [← hn] at HX HF HCm HBd HSm l3 ll ⊢
  have HL := hidb (show 3 ≤ n ∧ n ≤ 4000 from ⟨l3, ll⟩)
  clear hn h l3 ll
  go_enter Tryd.func13, Tryd.ntmps13
  go_wp2
  go_loopw [4] (fun t wr => ∃ (i : Nat), i ≤ n ∧ t = .int .i64 (i : Int) ∧ Hid (∀ j, j < i → ∀ k, k < j → ¬ bdP l k j) ∧ Hid (Gr w wr)) (fun t _ => n - (intOf t).toNat)
  case atStart => exact ⟨0, Nat.zero_le _, rfl, (by intro j hj; omega), Gr.refl _⟩
  case round =>
    obtain ⟨i, hi, rfl, HI, HG⟩ := hrel
    by_cases h1 : ¬ i < n
    · have h1' : ¬ (i : Int) < (n : Int) := by omega
      obtain rfl : i = n := by omega
      obtain rfl := HT.out (HSm.out.2 HI.out)
      clear h1
      go_wp2
      go_ret
      exact ⟨rfl, HG.out⟩
    · have h1' : (i : Int) < (n : Int) := by omega
      have hin : i < n := by omega
      have HIN := hidb hin
      have HE1 : Hid (IntKind.i64.wrap ((i : Int) + 1) = ((i + 1 : Nat) : Int)) := by show _ = _; rw [show (i : Int) + 1 = ((i + 1 : Nat) : Int) by omega]; exact wr_in (by omega) (by have := HL.out; omega)
      have HG1 := hidb HG.out
      clear h1 hin HG
      go_wp2
      go_loopw [5] (fun t wr => ∃ (k : Nat), k ≤ i ∧ t = .int .i64 (k : Int) ∧ Hid (∀ j, j < k → ¬ bdP l j i) ∧ Hid (Gr w wr)) (fun t _ => i - (intOf t).toNat)
      case atStart => exact ⟨0, Nat.zero_le _, rfl, (by intro j hj; omega), HG1⟩
      case round =>
        obtain ⟨k, hk, rfl, HK, HG⟩ := hrel
        by_cases h2 : ¬ k < i
        · have h2' : ¬ (k : Int) < (i : Int) := by omega
          obtain rfl : k = i := by omega
          have HI2 : Hid (∀ j, j < k + 1 → ∀ m, m < j → ¬ bdP l m j) := fun j hj => by
            rcases Nat.lt_succ_iff_lt_or_eq.1 hj with c | c
            · exact HI.out j c
            · subst c; exact HK.out
          have e1 := HE1.out
          clear h2
          go_wp2
          go_roundw
          case rel => exact ⟨k + 1, HIN.out, by go_num, HI2, HG⟩
          case measure => have := HIN.out; simp [intOf]; omega
        · have h2' : (k : Int) < (i : Int) := by omega
          have hki : k < i := by omega
          have HKI := hidb hki
          have hkn : k < n := by have := HIN.out; omega
          have hn0 : ¬ n = 0 := by omega
          have hn0' : ¬ (n : Int) = 0 := by omega
          have hl := HL.out
          obtain ⟨m, hm⟩ : ∃ m, m = (k + 1) % n := ⟨_, rfl⟩
          obtain ⟨m', hm'⟩ : ∃ m, m = (i + 1) % n := ⟨_, rfl⟩
          obtain ⟨s1, hs1⟩ : ∃ z : Int, z = (k : Int) + 1 := ⟨_, rfl⟩
          obtain ⟨s2, hs2⟩ : ∃ z : Int, z = (i : Int) + 1 := ⟨_, rfl⟩
          obtain ⟨mI, hmI⟩ : ∃ z : Int, z = (m : Int) := ⟨_, rfl⟩
          obtain ⟨nI, hnI⟩ : ∃ z : Int, z = (m' : Int) := ⟨_, rfl⟩
          have e1 : IntKind.i64.wrap ((k : Int) + 1) = s1 := by rw [hs1]; exact wr_in (by omega) (by omega)
          have e2 : s1.tmod (n : Int) = mI := by rw [hs1, hmI, hm, Int.tmod_eq_emod_of_nonneg (by omega)]; push_cast; rfl
          have e3 : IntKind.i64.wrap ((i : Int) + 1) = s2 := by rw [hs2]; exact wr_in (by omega) (by have := HIN.out; omega)
          have e4 : s2.tmod (n : Int) = nI := by rw [hs2, hnI, hm', Int.tmod_eq_emod_of_nonneg (by omega)]; push_cast; rfl
          have HS1 : Hid (s1 = ((k + 1 : Nat) : Int)) := by show _ = _; rw [hs1]; push_cast; rfl
          have hmn : m < n := by rw [hm]; exact nxm_lt hkn
          have hmn' : m' < n := by rw [hm']; exact nxm_lt HIN.out
          have ix1 := HX.out k hkn
          have ix2 := HX.out m hmn
          have ix3 := HX.out i HIN.out
          have ix4 := HX.out m' hmn'
          rw [← hmI] at ix2
          rw [← hnI] at ix4
          have HC0 := hidb (HCm.out k hkn i HIN.out)
          have hbd := HBd.out k i
          have hF := HF.out i HIN.out k hki
          rw [← hm, ← hm'] at HC0 hbd
          have HF2 := hidb hF
          have HK2 : Hid (¬ bdP l k i → ∀ j, j < k + 1 → ¬ bdP l j i) := fun hh j hj => by
            rcases Nat.lt_succ_iff_lt_or_eq.1 hj with c | c
            · exact HK.out j c
            · subst c; exact hh
          have hc1 : k + 1 = i ↔ s1 = (i : Int) := by rw [hs1]; omega
          have hc2 : m' = k ↔ nI = (k : Int) := by rw [hnI]; omega
          have hxx : ¬ (s1 = (i : Int) ∧ nI = (k : Int)) := by
            rintro ⟨x1, x2⟩
            rw [hs1] at x1
            rw [hnI, hm'] at x2
            have x3 : (i + 1) % n = k := by omega
            have x4 : i = k + 1 := by omega
            subst x4
            rcases Nat.lt_or_ge (k + 1 + 1) n with c | c
            · rw [Nat.mod_eq_of_lt c] at x3; omega
            · have : k + 1 + 1 = n := by have := HIN.out; omega
              rw [this, Nat.mod_self] at x3; omega
          rw [hc1, hc2] at hbd
          have HXX := hidb hxx
          have HQ := hidb (fun W (hW : Gr w W) => And.intro (And.intro ((HR.out.gr hW).row k (by rw [← HNn.out]; exact hkn)).1 ((HR.out.gr hW).row m (by rw [← HNn.out]; exact hmn)).1) (And.intro ((HR.out.gr hW).row i (by rw [← HNn.out]; exact HIN.out)).1 ((HR.out.gr hW).row m' (by rw [← HNn.out]; exact hmn')).1))
          have hcn := cmN_two (sx l k) (sx l m) (sx l i) (sx l m')
          generalize sx l k = p at *
          generalize sx l m = q at *
          generalize sx l i = r at *
          generalize sx l m' = s at *
          generalize cmN p q r s = cN at *
          generalize cmA p q r s = cA at *
          have HB := hidb hbd
          have heq1 := sp_eq cA q
          have heq2 := sp_eq cA p
          obtain ⟨⟨⟨a0, a1⟩, b0, b1⟩, ⟨c0, c1⟩, d0, d1⟩ := HQ.out _ HG.out
          have hbl : b < wr.heap.size := lt_of_cell (p := ⟨b, o + k * 2, none⟩) a0
          have n1 : ¬ b = wr.heap.size := by omega
          have n2 : ¬ b = wr.heap.size + 1 := by omega
          have n3 : ¬ b = wr.heap.size + 1 + 1 := by omega
          have n4 : ¬ wr.heap.size = b := by omega
          have n5 : ¬ wr.heap.size + 1 = b := by omega
          have n6 : ¬ wr.heap.size + 1 + 1 = b := by omega
          have hbl2 : b < wr.heap.size + 1 := by omega
          have hbl3 : b < wr.heap.size + 1 + 1 := by omega
          have FP := (((At.new2 wr (.int .i64 p.1) (.int .i64 p.2) 24).alloc (.cells #[.int .i64 q.1, .int .i64 q.2] 24)).alloc (.cells #[.int .i64 r.1, .int .i64 r.2] 24)).alloc (.cells #[.int .i64 s.1, .int .i64 s.2] 24)
          have FQ := ((At.nx2 (W := wr) (.cells #[.int .i64 p.1, .int .i64 p.2] 24) (.int .i64 q.1) (.int .i64 q.2) 24).alloc (.cells #[.int .i64 r.1, .int .i64 r.2] 24)).alloc (.cells #[.int .i64 s.1, .int .i64 s.2] 24)
          have FR := (At.ny2 (W := wr) (.cells #[.int .i64 p.1, .int .i64 p.2] 24) (.cells #[.int .i64 q.1, .int .i64 q.2] 24) (.int .i64 r.1) (.int .i64 r.2) 24).alloc (.cells #[.int .i64 s.1, .int .i64 s.2] 24)
          have FS := At.nz2 (W := wr) (.cells #[.int .i64 p.1, .int .i64 p.2] 24) (.cells #[.int .i64 q.1, .int .i64 q.2] 24) (.cells #[.int .i64 r.1, .int .i64 r.2] 24) (.int .i64 s.1) (.int .i64 s.2) 24
          have HGA := hidb ((((HG.out.alloc (.cells #[.int .i64 p.1, .int .i64 p.2] 24)).alloc (.cells #[.int .i64 q.1, .int .i64 q.2] 24)).alloc (.cells #[.int .i64 r.1, .int .i64 r.2] 24)).alloc (.cells #[.int .i64 s.1, .int .i64 s.2] 24))
          clear h2 hki hkn hl hm hm' hs1 hs2 hmI hnI hmn hmn' hbd hF hc1 hc2 hxx
          go_upto_region 12 with fail
          clear a0 a1 b0 b1 c0 c1 d0 d1 n1 n2 n3 n4 n5 n6 hbl hbl2 hbl3 ix1 ix2 ix3 ix4
          generalize (((wr.alloc (.cells #[.int .i64 p.1, .int .i64 p.2] 24)).alloc (.cells #[.int .i64 q.1, .int .i64 q.2] 24)).alloc (.cells #[.int .i64 r.1, .int .i64 r.2] 24)).alloc (.cells #[.int .i64 s.1, .int .i64 s.2] 24) = W1 at *
          obtain ⟨a0, a1⟩ := FP.c2
          obtain ⟨b0, b1⟩ := FQ.c2
          obtain ⟨c0, c1⟩ := FR.c2
          obtain ⟨d0, d1⟩ := FS.c2
          go_upto_region 13 with (go_at_call 26; refine (HC0.out _).mono ?_; rintro e w2 ⟨rfl, hB⟩; replace FP := At.below hB.out FP; replace FQ := At.below hB.out FQ; replace HGA := hidb (Gr.step HGA.out hB.out); clear a0 a1 b0 b1 c0 c1 d0 d1 hB FR FS)
          replace FP := FP.alloc (.cells #[.int .i64 cA.1, .int .i64 cA.2] 24)
          replace FQ := FQ.alloc (.cells #[.int .i64 cA.1, .int .i64 cA.2] 24)
          have FA := At.new2 w2 (.int .i64 cA.1) (.int .i64 cA.2) 24
          replace HGA := hidb (HGA.out.alloc (.cells #[.int .i64 cA.1, .int .i64 cA.2] 24))
          generalize w2.alloc (.cells #[.int .i64 cA.1, .int .i64 cA.2] 24) = w3 at *
          obtain ⟨a0, a1⟩ := FP.c2
          obtain ⟨b0, b1⟩ := FQ.c2
          obtain ⟨c0, c1⟩ := FA.c2
          by_cases k1 : s1 = (i : Int)
          · have k2 : ¬ nI = (k : Int) := fun e => HXX.out ⟨k1, e⟩
            rcases hcn with e0 | e0 | e0
            · have HN := hidb (HK2.out (fun hh => by rcases HB.out.1 hh with hx | hx <;> omega))
              rw [e0]
              clear e0
              push_cast
              go_wp2
              go_roundw
              case rel => exact ⟨k + 1, HKI.out, by first | rw [HS1.out] | rw [← k1, HS1.out], HN, HGA⟩
              case measure => have h1 := HKI.out; have h2 := HS1.out; simp [intOf]; omega
            · by_cases e5 : cA = q
              · have HN := hidb (HK2.out (fun hh => by rcases HB.out.1 hh with hx | hx; omega; exact hx.2.1 ⟨k1, e5⟩))
                rw [e0]
                rw [decide_eq_true e5] at heq1
                clear e5
                clear e0
                push_cast
                go_wp2
                go_roundw
                case rel => exact ⟨k + 1, HKI.out, by first | rw [HS1.out] | rw [← k1, HS1.out], HN, HGA⟩
                case measure => have h1 := HKI.out; have h2 := HS1.out; simp [intOf]; omega
              · obtain rfl := HF2.out (HB.out.2 (.inr ⟨e0, fun hx => e5 hx.2, fun hx => k2 hx.1⟩))
                rw [e0]
                rw [decide_eq_false e5] at heq1
                clear e5
                clear e0
                push_cast
                go_wp2
                go_ret
                exact ⟨rfl, HGA.out⟩
            · obtain rfl := HF2.out (HB.out.2 (.inl e0))
              rw [e0]
              clear e0
              push_cast
              go_wp2
              go_ret
              exact ⟨rfl, HGA.out⟩
          · by_cases k2 : nI = (k : Int)
            · rcases hcn with e0 | e0 | e0
              · have HN := hidb (HK2.out (fun hh => by rcases HB.out.1 hh with hx | hx <;> omega))
                rw [e0]
                clear e0
                push_cast
                go_wp2
                go_roundw
                case rel => exact ⟨k + 1, HKI.out, by first | rw [HS1.out] | rw [← k1, HS1.out], HN, HGA⟩
                case measure => have h1 := HKI.out; have h2 := HS1.out; simp [intOf]; omega
              · by_cases e5 : cA = p
                · have HN := hidb (HK2.out (fun hh => by rcases HB.out.1 hh with hx | hx; omega; exact hx.2.2 ⟨k2, e5⟩))
                  rw [e0]
                  rw [decide_eq_true e5] at heq2
                  clear e5
                  clear e0
                  push_cast
                  go_wp2
                  go_roundw
                  case rel => exact ⟨k + 1, HKI.out, by first | rw [HS1.out] | rw [← k1, HS1.out], HN, HGA⟩
                  case measure => have h1 := HKI.out; have h2 := HS1.out; simp [intOf]; omega
                · obtain rfl := HF2.out (HB.out.2 (.inr ⟨e0, fun hx => k1 hx.1, fun hx => e5 hx.2⟩))
                  rw [e0]
                  rw [decide_eq_false e5] at heq2
                  clear e5
                  clear e0
                  push_cast
                  go_wp2
                  go_ret
                  exact ⟨rfl, HGA.out⟩
              · obtain rfl := HF2.out (HB.out.2 (.inl e0))
                rw [e0]
                clear e0
                push_cast
                go_wp2
                go_ret
                exact ⟨rfl, HGA.out⟩
            · rcases hcn with e0 | e0 | e0
              · have HN := hidb (HK2.out (fun hh => by rcases HB.out.1 hh with hx | hx <;> omega))
                rw [e0]
                clear e0
                push_cast
                go_wp2
                go_roundw
                case rel => exact ⟨k + 1, HKI.out, by first | rw [HS1.out] | rw [← k1, HS1.out], HN, HGA⟩
                case measure => have h1 := HKI.out; have h2 := HS1.out; simp [intOf]; omega
              · obtain rfl := HF2.out (HB.out.2 (.inr ⟨e0, fun hx => k1 hx.1, fun hx => k2 hx.1⟩))
                rw [e0]
                clear e0
                push_cast
                go_wp2
                go_ret
                exact ⟨rfl, HGA.out⟩
              · obtain rfl := HF2.out (HB.out.2 (.inl e0))
                rw [e0]
                clear e0
                push_cast
                go_wp2
                go_ret
                exact ⟨rfl, HGA.out⟩
end Go.Proofs.YtnhehehbidhlcaaDoor
