/-
  relief.stands.
-/
import Derived.Test.YthbobceghbknoaaDoorQRlP
namespace Go.Proofs.YthbobceghbknoaaDoor
open Go.RowKit

/-- Above all around, below all around. -/
def Top (l : List Int) (m i : Nat) : Prop := ∀ k, k < l.length → tch m i k → gl l k < gl l i
def Bot (l : List Int) (m i : Nat) : Prop := ∀ k, k < l.length → tch m i k → gl l i < gl l k
instance (l : List Int) (m i : Nat) : Decidable (Top l m i) := by unfold Top; exact inferInstance
instance (l : List Int) (m i : Nat) : Decidable (Bot l m i) := by unfold Bot; exact inferInstance
/-- So far: of some rows all, of one row some. -/
def Upto (m i R0 C0 C1 r c : Nat) (p : Nat → Prop) : Prop := (∀ r', R0 ≤ r' → r' < r → ∀ c', C0 ≤ c' → c' ≤ C1 → r' * m + c' ≠ i → p (r' * m + c')) ∧ (∀ c', C0 ≤ c' → c' < c → r * m + c' ≠ i → p (r * m + c'))
theorem Upto.start (m i R0 C0 C1 : Nat) (p : Nat → Prop) : Upto m i R0 C0 C1 R0 C0 p := ⟨fun r' h1 h2 => by omega, fun c' h1 h2 => by omega⟩
theorem Upto.skip {m i R0 C0 C1 r c : Nat} {p : Nat → Prop} (e : r * m + c = i) : Upto m i R0 C0 C1 r (c + 1) p ↔ Upto m i R0 C0 C1 r c p := by
  constructor
  · exact fun h => ⟨h.1, fun c' h1 h2 h3 => h.2 c' h1 (by omega) h3⟩
  · refine fun h => ⟨h.1, fun c' h1 h2 h3 => ?_⟩
    by_cases hc : c' = c
    · subst hc; exact absurd e h3
    · exact h.2 c' h1 (by omega) h3
theorem Upto.step {m i R0 C0 C1 r c : Nat} {p : Nat → Prop} (hc : C0 ≤ c) (e : ¬ r * m + c = i) : Upto m i R0 C0 C1 r (c + 1) p ↔ Upto m i R0 C0 C1 r c p ∧ p (r * m + c) := by
  constructor
  · exact fun h => ⟨⟨h.1, fun c' h1 h2 h3 => h.2 c' h1 (by omega) h3⟩, h.2 c hc (by omega) e⟩
  · refine fun ⟨h, hp⟩ => ⟨h.1, fun c' h1 h2 h3 => ?_⟩
    by_cases hc : c' = c
    · subst hc; exact hp
    · exact h.2 c' h1 (by omega) h3
theorem Upto.row {m i R0 C0 C1 r c : Nat} {p : Nat → Prop} (hr : R0 ≤ r) (hc : c = C1 + 1) : Upto m i R0 C0 C1 (r + 1) C0 p ↔ Upto m i R0 C0 C1 r c p := by
  subst hc
  constructor
  · refine fun h => ⟨fun r' h1 h2 => h.1 r' h1 (by omega), fun c' h1 h2 h3 => h.1 r hr (by omega) c' h1 (by omega) h3⟩
  · refine fun h => ⟨fun r' h1 h2 c' h3 h4 h5 => ?_, fun c' h1 h2 => by omega⟩
    by_cases e : r' = r
    · subst e; exact h.2 c' h3 (by omega) h5
    · exact h.1 r' h1 (by omega) c' h3 h4 h5
theorem Upto.all {l : List Int} {m n i : Nat} (ok : Ok l m n) (hi : i < l.length) {p : Nat → Prop} : Upto m i (i / m - 1) (i % m - 1) (min (i % m + 1) (m - 1)) (min (i / m + 1) (n - 1) + 1) (i % m - 1) p ↔ ∀ k, k < l.length → tch m i k → p k := by
  have hm1 := ok.m1
  have hn1 := ok.n1
  have hl := ok.len
  have hcm : i % m < m := Nat.mod_lt _ (by omega)
  have hrn : i / m < n := Nat.div_lt_of_lt_mul (by rw [← hl]; exact hi)
  constructor
  · intro h k hk ht
    have e : k / m * m + k % m = k := by rw [Nat.mul_comm]; exact Nat.div_add_mod k m
    have kc : k % m < m := Nat.mod_lt _ (by omega)
    have kr : k / m < n := Nat.div_lt_of_lt_mul (by rw [← hl]; exact hk)
    unfold tch at ht
    generalize k / m = a at *
    generalize k % m = b at *
    generalize i / m = ri at *
    generalize i % m = ci at *
    have := h.1 a (by omega) (by omega) b (by omega) (by omega) (by rw [e]; omega)
    rw [e] at this
    exact this
  · refine fun h => ⟨fun r' h1 h2 c' h3 h4 h5 => ?_, fun c' h1 h2 => by omega⟩
    obtain ⟨e1, e2⟩ := mod_at (m := m) (r := r') (c := c') (by omega)
    refine h _ (ok.cell (by omega) (by omega)) ?_
    unfold tch
    rw [e1, e2]
    omega
set_option maxRecDepth 4000 in
set_option maxHeartbeats 16000000 in
theorem stands_any {b o cap m n : Nat} {l : List Int} (i : Nat) (hi : i < l.length) (w : World) (h : Rs w b o cap l) (ok : Ok l m n) : Calls Tryd.prog 30 #[raV m n (.slice (some ⟨b, o, none⟩) l.length cap), .int .i64 (i : Int)] w fun e w' => e = .returned (.tuple #[.bool (decide (Top l m i)), .bool (decide (Bot l m i))]) ∧ Gr w w' := by
  have ll := ok.len_le
  have hm1 := ok.m1
  have hn1 := ok.n1
  have hm2 := ok.m2
  have hn2 := ok.n2
  have HT := hidb (Upto.all ok hi (p := fun k => gl l k < gl l i))
  have HS := hidb (Upto.all ok hi (p := fun k => gl l i < gl l k))
  have hcm : i % m < m := Nat.mod_lt _ (by omega)
  have hrn : i / m < n := Nat.div_lt_of_lt_mul (by rw [← ok.len]; exact hi)
  obtain ⟨iI, hiI'⟩ : ∃ z : Int, z = (i : Int) := ⟨_, rfl⟩
  obtain ⟨mI, hmI⟩ : ∃ z : Int, z = (m : Int) := ⟨_, rfl⟩
  obtain ⟨q1, r1, s1, s2⟩ := nat_q hiI' hmI (by omega)
  generalize hc0 : i % m = c at *
  generalize hr0 : i / m = r at *
  obtain ⟨C0, hC0⟩ : ∃ z, z = c - 1 := ⟨_, rfl⟩
  obtain ⟨C1, hC1⟩ : ∃ z, z = min (c + 1) (m - 1) := ⟨_, rfl⟩
  obtain ⟨R0, hR0⟩ : ∃ z, z = r - 1 := ⟨_, rfl⟩
  obtain ⟨R1, hR1⟩ : ∃ z, z = min (r + 1) (n - 1) := ⟨_, rfl⟩
  rw [← hC0, ← hC1, ← hR0, ← hR1] at HT HS
  obtain ⟨c1, hc1, e1⟩ : ∃ z : Int, z = (c : Int) - 1 ∧ IntKind.i64.wrap ((c : Int) - 1) = z := ⟨_, rfl, wrap_in (by omega) (by omega)⟩
  obtain ⟨c2, hc2, e2⟩ : ∃ z : Int, z = (c : Int) + 1 ∧ IntKind.i64.wrap ((c : Int) + 1) = z := ⟨_, rfl, wrap_in (by omega) (by omega)⟩
  obtain ⟨r1', hr1, e3⟩ : ∃ z : Int, z = (r : Int) - 1 ∧ IntKind.i64.wrap ((r : Int) - 1) = z := ⟨_, rfl, wrap_in (by omega) (by omega)⟩
  obtain ⟨r2, hr2, e4⟩ : ∃ z : Int, z = (r : Int) + 1 ∧ IntKind.i64.wrap ((r : Int) + 1) = z := ⟨_, rfl, wrap_in (by omega) (by omega)⟩
  obtain ⟨m1, hm3, e5⟩ : ∃ z : Int, z = mI - 1 ∧ IntKind.i64.wrap (mI - 1) = z := ⟨_, rfl, wrap_in (by omega) (by omega)⟩
  obtain ⟨n1, hn3, e6⟩ : ∃ z : Int, z = (n : Int) - 1 ∧ IntKind.i64.wrap ((n : Int) - 1) = z := ⟨_, rfl, wrap_in (by omega) (by omega)⟩
  have f1 : (if r1' < 0 then 0 else r1') = (R0 : Int) := by split <;> omega
  have f2 : (if c1 < 0 then 0 else c1) = (C0 : Int) := by split <;> omega
  have f3 : (if n1 < r2 then n1 else r2) = (R1 : Int) := by split <;> omega
  have f4 : (if m1 < c2 then m1 else c2) = (C1 : Int) := by split <;> omega
  have HX := hidb (fun (r' c' : Nat) (h1 : r' ≤ R1) (h2 : c' ≤ C1) => ok.cell (show c' < m by omega) (show r' < n by omega))
  have HIx := hidb (fun (k : Nat) (hk : k < l.length) => iindex b o l.length cap k hk)
  have HRs := hidb h
  have HB := hidb (show C1 ≤ 128 ∧ R1 ≤ 128 ∧ C0 ≤ C1 + 1 ∧ R0 ≤ R1 + 1 ∧ m ≤ 128 ∧ l.length ≤ 16384 ∧ R0 ≤ R1 ∧ C0 ≤ C1 by omega)
  have G0 := hidb ((Gr.refl w).alloc (.cells #[.int .i64 mI, .int .i64 n, .slice (some ⟨b, o, none⟩) l.length cap] 31))
  have A0 := hidb (At.new3 w (.int .i64 mI) (.int .i64 n) (.slice (some ⟨b, o, none⟩) l.length cap) 31)
  have e0 : ¬ mI = 0 := by omega
  have HMI := hidb hmI
  have HII := hidb hiI'
  have HLi := hidb hi
  rw [← hmI, ← hiI']
  clear hm1 hn1 hm2 hn2 hcm hrn hc1 hc2 hr1 hr2 hm3 hn3 h ok hC0 hC1 hR0 hR1 hc0 hr0 ll hmI hiI' hi
  go_enter Tryd.func30, Tryd.ntmps30
  go_upto_region 2 with fail
  generalize w.alloc (.cells #[.int .i64 mI, .int .i64 n, .slice (some ⟨b, o, none⟩) l.length cap] 31) = w1 at *
  obtain ⟨a0, a1, a2⟩ := A0.out.c3
  go_quiet (fail)
  go_wp2
  clear a0 a1 a2
  generalize hw2 : World.drewN w1 _ = w2
  have HA : Hid (At w2 w.heap.size [.int .i64 mI, .int .i64 n, .slice (some ⟨b, o, none⟩) l.length cap]) := by rw [← hw2]; exact A0.out.drewN _
  have HG : Hid (Gr w w2) := by rw [← hw2]; exact G0.out.drewN _
  clear hw2 A0 G0 q1 r1 s1 s2 e3
  go_loopw [4, 5, 8] (fun t s v8 wr => ∃ (tb sb : Bool) (r' : Nat), t = .bool tb ∧ s = .bool sb ∧ v8 = .int .i64 (r' : Int) ∧ r' ≤ R1 + 1 ∧ R0 ≤ r' ∧ Hid (tb = true ↔ Upto m i R0 C0 C1 r' C0 (fun k => gl l k < gl l i)) ∧ Hid (sb = true ↔ Upto m i R0 C0 C1 r' C0 (fun k => gl l i < gl l k)) ∧ Hid (At wr w.heap.size [.int .i64 mI, .int .i64 n, .slice (some ⟨b, o, none⟩) l.length cap]) ∧ Hid (Gr w wr)) (fun _ _ v8 _ => R1 + 1 - (intOf v8).toNat)
  case atStart => exact ⟨true, true, R0, rfl, rfl, rfl, by have := HB.out; omega, Nat.le_refl _, ⟨fun _ => Upto.start _ _ _ _ _ _, fun _ => rfl⟩, ⟨fun _ => Upto.start _ _ _ _ _ _, fun _ => rfl⟩, HA, HG⟩
  case round =>
    clear HA HG
    obtain ⟨tb, sb, r', rfl, rfl, rfl, hr1, hr2, HTB, HSB, HA, HG⟩ := hrel
    obtain ⟨a0, a1, a2⟩ := HA.out.c3
    by_cases hr : r' ≤ R1
    · have hr3 : (r' : Int) ≤ (R1 : Int) := by omega
      go_wp2
      clear a0 a1 a2
      go_loopw [4, 5, 9] (fun t s v9 wx => ∃ (tb sb : Bool) (c' : Nat), t = .bool tb ∧ s = .bool sb ∧ v9 = .int .i64 (c' : Int) ∧ c' ≤ C1 + 1 ∧ C0 ≤ c' ∧ Hid (tb = true ↔ Upto m i R0 C0 C1 r' c' (fun k => gl l k < gl l i)) ∧ Hid (sb = true ↔ Upto m i R0 C0 C1 r' c' (fun k => gl l i < gl l k)) ∧ Hid (At wx w.heap.size [.int .i64 mI, .int .i64 n, .slice (some ⟨b, o, none⟩) l.length cap]) ∧ Hid (Gr w wx)) (fun _ _ v9 _ => C1 + 1 - (intOf v9).toNat)
      case atStart => exact ⟨tb, sb, C0, rfl, rfl, rfl, by have := HB.out; omega, Nat.le_refl _, HTB, HSB, HA, HG⟩
      case round =>
        clear HTB HSB HA HG
        obtain ⟨tb, sb, c', rfl, rfl, rfl, hc1, hc2, HTB, HSB, HA, HG⟩ := hrel
        obtain ⟨a0, a1, a2⟩ := HA.out.c3
        by_cases hc : c' ≤ C1
        · have hc3 : (c' : Int) ≤ (C1 : Int) := by omega
          have hK := HX.out r' c' hr hc
          obtain ⟨K, hKe⟩ : ∃ K, K = r' * m + c' := ⟨_, rfl⟩
          have HKE := hidb hKe
          obtain ⟨k0, hk0, g1⟩ : ∃ z : Int, z = ((r' * m : Nat) : Int) ∧ IntKind.i64.wrap ((r' : Int) * mI) = z := ⟨_, rfl, by rw [HMI.out, ← Int.natCast_mul]; exact wrap_in (by omega) (by have := HB.out; omega)⟩
          have g2 : IntKind.i64.wrap (k0 + (c' : Int)) = (K : Int) := by rw [show k0 + (c' : Int) = (K : Int) by omega]; exact wrap_in (by omega) (by have := HB.out; omega)
          have g3 : IntKind.i64.wrap ((c' : Int) + 1) = ((c' + 1 : Nat) : Int) := wrap_in (by omega) (by have := HB.out; omega)
          rw [← hKe] at hK
          by_cases hKi : K = i
          · have k1 : (K : Int) = iI := by rw [HII.out, hKi]
            have HE := hidb (show r' * m + c' = i by rw [← hKe]; exact hKi)
            clear hKe hK hk0 hKi
            go_wp2
            go_roundw
            case rel => exact ⟨tb, sb, c' + 1, rfl, rfl, rfl, by omega, by omega, HTB.out.trans (Upto.skip HE.out).symm, HSB.out.trans (Upto.skip HE.out).symm, HA, HG⟩
            case measure => simp [intOf]; omega
          · have k1 : ¬ (K : Int) = iI := by rw [HII.out]; omega
            have HE := hidb (show ¬ r' * m + c' = i by rw [← hKe]; exact hKi)
            have ix1 := HIx.out K hK
            have ix2 : ∀ w, (Instr.indexAt 29 (.slice (some ⟨b, o, none⟩) l.length cap) (.int .i64 iI)).run Tryd.prog w = .ok (.pointer (some ⟨b, o + i, none⟩)) w := by rw [HII.out]; exact HIx.out i HLi.out
            have HC1 := hidb (fun (W : World) (hG : Gr w W) => (HRs.out.below hG.out).get hK)
            have HC2 := hidb (fun (W : World) (hG : Gr w W) => (HRs.out.below hG.out).get HLi.out)
            obtain ⟨x1, hx1⟩ : ∃ x, gl l K = x := ⟨_, rfl⟩
            obtain ⟨x2, hx2⟩ : ∃ x, gl l i = x := ⟨_, rfl⟩
            rw [hx1] at HC1
            rw [hx2] at HC2
            have HTn : Hid ((tb && decide (x1 < x2)) = true ↔ Upto m i R0 C0 C1 r' (c' + 1) (fun k => gl l k < gl l i)) := by
              show _ ↔ _
              rw [Upto.step hc2 HE.out, Bool.and_eq_true, HTB.out, decide_eq_true_iff, ← hx1, ← hx2, hKe]
            have HSn : Hid ((sb && decide (x2 < x1)) = true ↔ Upto m i R0 C0 C1 r' (c' + 1) (fun k => gl l i < gl l k)) := by
              show _ ↔ _
              rw [Upto.step hc2 HE.out, Bool.and_eq_true, HSB.out, decide_eq_true_iff, ← hx1, ← hx2, hKe]
            clear hKe hK hk0 hKi hx1 hx2 HTB HSB
            have CC1 := HC1.out _ HG.out
            have CC2 := HC2.out _ HG.out
            cases tb <;> cases sb
            all_goals
              go_upto_region 11 with fail
              go_quiet (fail)
              go_upto_region 12 with fail
              clear a0 a1 a2 CC1 CC2
              generalize hwa : World.drewN wr _ = wa
              replace HA : Hid (At wa w.heap.size [.int .i64 mI, .int .i64 n, .slice (some ⟨b, o, none⟩) l.length cap]) := by rw [← hwa]; exact HA.out.drewN _
              replace HG : Hid (Gr w wa) := by rw [← hwa]; exact HG.out.drewN _
              clear hwa
              obtain ⟨a0, a1, a2⟩ := HA.out.c3
              have CC1 := HC1.out _ HG.out
              have CC2 := HC2.out _ HG.out
              go_quiet (fail)
              go_wp2
              go_roundw
              case rel => exact ⟨_, _, c' + 1, rfl, rfl, rfl, by omega, by omega, by simpa using HTn, by simpa using HSn, hidb (HA.out.drewN _), hidb (HG.out.drewN _)⟩
              case measure => simp [intOf]; omega
        · have hc3 : ¬ (c' : Int) ≤ (C1 : Int) := by omega
          have hcc : c' = C1 + 1 := by omega
          have HTn := hidb (HTB.out.trans (Upto.row (i := i) (C0 := C0) hr2 hcc).symm)
          have HSn := hidb (HSB.out.trans (Upto.row (i := i) (C0 := C0) hr2 hcc).symm)
          have g3 : IntKind.i64.wrap ((r' : Int) + 1) = ((r' + 1 : Nat) : Int) := wrap_in (by omega) (by have := HB.out; omega)
          clear hcc HTB HSB
          go_wp2
          go_roundw
          case rel => exact ⟨tb, sb, r' + 1, rfl, rfl, rfl, by omega, by omega, HTn, HSn, HA, HG⟩
          case measure => simp [intOf]; omega
    · have hr3 : ¬ (r' : Int) ≤ (R1 : Int) := by omega
      have hrr : r' = R1 + 1 := by omega
      rw [hrr] at HTB HSB
      have HTn : Hid (decide (Top l m i) = tb) := by
        show _ = _
        rw [Bool.eq_iff_iff, decide_eq_true_iff]
        exact (HTB.out.trans HT.out).symm
      have HSn : Hid (decide (Bot l m i) = sb) := by
        show _ = _
        rw [Bool.eq_iff_iff, decide_eq_true_iff]
        exact (HSB.out.trans HS.out).symm
      clear hrr HTB HSB
      go_wp2
      go_ret2
      exact ⟨by rw [HTn.out, HSn.out]; rfl, HG.out⟩
end Go.Proofs.YthbobceghbknoaaDoor
