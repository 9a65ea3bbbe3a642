/-
  slices.Compact of fractions.
-/
import Derived.Test.YtpdiefmmenfpaaaDoorQSsB
namespace Go.Proofs.YtpdiefmmenfpaaaDoor
open Go.RowKit
attribute [local go_sem ↓] Go.wp_at_zero Go.wp_at_succ

/-- While the ones that are told twice are left out: what is ahead is as it was, what is behind is told once. -/
structure CK (W : World) (B n : Nat) (c : Nat → Int × Int) (k m : Nat) (d : Nat → Int × Int) : Prop where
  f : FB2 W B n d
  old : ∀ i, m ≤ i + 1 → d i = c i
  new : (List.range k).map d = dfK c m
  kn : k ≤ n ∧ (1 ≤ m → k ≤ m)
theorem CK.put {W : World} {B n : Nat} {c d : Nat → Int × Int} {k m : Nat} (h : CK W B n c k m d) (hm : m < n) (hk : k < m) (_h0 : 1 ≤ m) (hne : c m ≠ c (m - 1)) : CK ((W.setCell ⟨B, k * 2, none⟩ (.int .i64 (c m).1)).setCell ⟨B, k * 2 + 1, none⟩ (.int .i64 (c m).2)) B n c (k + 1) (m + 1) (fun i => if i = k then c m else d i) := by
  refine ⟨h.f.put (by omega) _, fun i hi => ?_, ?_, by omega, by omega⟩
  · rw [if_neg (by omega)]; exact h.old i (by omega)
  · rw [List.range_succ, List.map_append, dfK_succ, if_pos (.inr hne), ← h.new]
    congr 1
    · apply List.map_congr_left
      intro i hi
      rw [List.mem_range] at hi
      rw [if_neg (by omega)]
    · simp
theorem CK.skip {W : World} {B n : Nat} {c d : Nat → Int × Int} {k m : Nat} (h : CK W B n c k m d) (h0 : 1 ≤ m) (he : c m = c (m - 1)) : CK W B n c k (m + 1) d :=
  ⟨h.f, fun i hi => h.old i (by omega), by rw [dfK_succ, if_neg (by rintro (k | k); omega; exact k he), List.append_nil]; exact h.new, h.kn.1, fun _ => by have := h.kn.2 h0; omega⟩
theorem CK.drewN {W : World} {B n : Nat} {c d : Nat → Int × Int} {k m : Nat} (h : CK W B n c k m d) (q : Nat) : CK (W.drewN q) B n c k m d := ⟨h.f.drewN q, h.old, h.new, h.kn⟩
/-- What is told once lies at the block's beginning. -/
def FRow (W : World) (B : Nat) (P : List (Int × Int)) : Prop := ∀ i, (h : i < P.length) → W.cell? ⟨B, i * 2, none⟩ = some (.int .i64 P[i].1) ∧ W.cell? ⟨B, i * 2 + 1, none⟩ = some (.int .i64 P[i].2)
theorem FRow.of {W : World} {B n k : Nat} {d : Nat → Int × Int} {P : List (Int × Int)} (h : FB2 W B n d) (hk : k ≤ n) (hP : (List.range k).map d = P) : FRow W B P := by
  subst hP
  intro i hi
  simp at hi
  simp
  exact (h.cl i (by omega)).1
theorem setCells_onl {A : Nat} : ∀ (vs : List Value) (o : Nat) {a b : World}, Onl A a b → Onl A a (b.setCells A o vs)
  | [], _, _, _, h => h
  | v :: r, o, _, _, h => setCells_onl r (o + 1) (h.set o v)
set_option maxRecDepth 4000 in
set_option maxHeartbeats 16000000 in
theorem compact_any {B n cap : Nat} {c : Nat → Int × Int} (hn : 1 ≤ n) (hn2 : n ≤ 20000) (hcap : n ≤ cap) (w : World) (h : FB2 w B n c) : Calls Tryd.prog 45 #[.slice (some ⟨B, 0, none⟩) n cap] w fun e w' => e = .returned (.slice (some ⟨B, 0, none⟩) (dfK c n).length cap) ∧ FRow w' B (dfK c n) ∧ B < w'.heap.size ∧ Onl B w w' := by
  obtain ⟨R, hR⟩ : ∃ R, R = (dfK c n).length := ⟨_, rfl⟩
  rw [← hR]
  have HR := hidb hR
  have HF := hidb h
  have HN := hidb (show 1 ≤ n ∧ n ≤ 20000 ∧ n ≤ cap from ⟨hn, hn2, hcap⟩)
  have HI := hidb (fun k (hk : k < n) => findex B 0 n cap k hk)
  have HS := hidb (fun k (hk : k < n) => fslice B n cap k hk hcap)
  have HSh := hidb (fun k (hk : k ≤ n) => fsliceh B n cap k hk hcap (by omega))
  clear hR h hn hn2 hcap
  by_cases h2 : n < 2
  · have h2' : (n : Int) < 2 := by omega
    have HE : Hid (n = R ∧ FRow w B (dfK c n)) := by
      have e1 : n = 1 := by have := HN.out; omega
      have e2 : dfK c n = (List.range n).map c := dfK_all c n (fun j h1 h2 => by omega)
      exact ⟨by rw [HR.out, e2]; simp, FRow.of HF.out (Nat.le_refl _) e2.symm⟩
    clear h2
    go_enter Tryd.func45, Tryd.ntmps45
    go_wp2
    go_ret
    exact ⟨by have k := HE.out.1; subst k; rfl, HE.out.2, HF.out.lt, Onl.refl _ _⟩
  · have h2' : ¬ (n : Int) < 2 := by omega
    clear h2
    go_enter Tryd.func45, Tryd.ntmps45
    go_wp2
    go_loopw [3] (fun t wr => ∃ k : Nat, 1 ≤ k ∧ k ≤ n ∧ t = .int .i64 (k : Int) ∧ Hid (FB2 wr B n c ∧ Onl B w wr) ∧ Hid (∀ j, 1 ≤ j → j < k → c j ≠ c (j - 1))) (fun t _ => n - (intOf t).toNat)
    case atStart => exact ⟨1, Nat.le_refl _, by have := HN.out; omega, rfl, hidb ⟨HF.out, Onl.refl _ _⟩, hidb (fun j h1 h2 => by omega)⟩
    case round =>
      obtain ⟨k, hk1, hk, rfl, HW, HP⟩ := hrel
      by_cases h3 : ¬ k < n
      · have h3' : ¬ (k : Int) < (n : Int) := by omega
        have HE : Hid (n = R ∧ FRow wr B (dfK c n)) := by
          have e2 : dfK c n = (List.range n).map c := dfK_all c n (fun j h1 h2 => HP.out j h1 (by omega))
          exact ⟨by rw [HR.out, e2]; simp, FRow.of HW.out.1 (Nat.le_refl _) e2.symm⟩
        clear h3
        go_wp2
        go_ret
        exact ⟨by have k := HE.out.1; subst k; rfl, HE.out.2, HW.out.1.lt, HW.out.2⟩
      · have h3' : (k : Int) < (n : Int) := by omega
        have hkn : k < n := by omega
        have Hk := hidb (show 1 ≤ k ∧ k < n from ⟨hk1, hkn⟩)
        have e1 : IntKind.i64.wrap ((k : Int) + 1) = ((k + 1 : Nat) : Int) := by rw [show (k : Int) + 1 = ((k + 1 : Nat) : Int) by omega]; exact wrap_in (by have := HN.out; omega) (by have := HN.out; omega)
        have e2 : IntKind.i64.wrap ((k : Int) - 1) = ((k - 1 : Nat) : Int) := by rw [show (k : Int) - 1 = ((k - 1 : Nat) : Int) by omega]; exact wrap_in (by have := HN.out; omega) (by have := HN.out; omega)
        obtain ⟨k1, hk1'⟩ : ∃ z : Int, z = ((k - 1 : Nat) : Int) := ⟨_, rfl⟩
        have ix := HI.out k hkn
        have ix1 := HI.out (k - 1) (by omega)
        rw [← hk1'] at e2 ix1
        rw [Nat.zero_add] at ix ix1
        obtain ⟨⟨a1, a2⟩, -⟩ := HW.out.1.cl k hkn
        obtain ⟨⟨b1, b2⟩, -⟩ := HW.out.1.cl (k - 1) (by omega)
        obtain ⟨o1, ho1⟩ : ∃ z, z = (k - 1) * 2 := ⟨_, rfl⟩
        rw [← ho1] at ix1 b1 b2
        by_cases h4 : c k = c (k - 1)
        · have HC0 : Hid (∀ q, CK (World.drewN wr q) B n c k (k + 1) c ∧ Onl B w (World.drewN wr q)) := by
            have e3 : dfK c k = (List.range k).map c := dfK_all c k (fun j h1 h2 => HP.out j h1 h2)
            have h0 : CK wr B n c k k c := ⟨HW.out.1, fun _ _ => rfl, e3.symm, hk, fun _ => Nat.le_refl _⟩
            exact fun q => ⟨(h0.skip hk1 h4).drewN q, HW.out.2.drewN q⟩
          rw [← h4] at b1 b2
          have sl := HS.out k hkn
          have HI2 := hidb (fun j (hj : j < n - k) => findex B (k * 2) (n - k) (cap - k) j hj)
          obtain ⟨N2, hN2⟩ : ∃ z, z = n - k := ⟨_, rfl⟩
          obtain ⟨O2, hO2⟩ : ∃ z, z = k * 2 := ⟨_, rfl⟩
          obtain ⟨C2, hC2⟩ : ∃ z, z = cap - k := ⟨_, rfl⟩
          rw [← hN2, ← hO2, ← hC2] at HI2 sl
          rw [← hO2] at ix a1 a2
          have H2 := hidb (show N2 = n - k ∧ O2 = k * 2 from ⟨hN2, hO2⟩)
          clear h3 hkn hk1' h4 hk hN2 hO2 hC2 ho1
          go_upto_region 6 with fail
          go_quiet (fail)
          go_wp2
          go_loopw [3, 5] (fun s t wr2 => ∃ (p m : Nat) (d : Nat → Int × Int), 1 ≤ m ∧ m ≤ N2 ∧ s = .int .i64 (p : Int) ∧ t = .int .i64 (m : Int) ∧ Hid (CK wr2 B n c p (k + m) d ∧ Onl B w wr2 ∧ p < k + m)) (fun _ t _ => N2 - (intOf t).toNat)
          case atStart => exact ⟨k, 1, c, Nat.le_refl _, by have := H2.out; have := Hk.out; omega, rfl, rfl, hidb ⟨(HC0.out _).1, (HC0.out _).2, by omega⟩⟩
          case round =>
            obtain ⟨p, m, d, hm1, hm, rfl, rfl, HC⟩ := hrel
            by_cases h5 : ¬ m < N2
            · have h5' : ¬ (m : Int) < (N2 : Int) := by omega
              have hpn : p < n := by have := HC.out; have := H2.out; have := Hk.out; omega
              have HM : Hid (CK wr B n c p n d) := by
                have e : k + m = n := by have := H2.out; have := Hk.out; omega
                have := HC.out.1
                rwa [e] at this
              have Hp := hidb (show p = R by rw [HR.out, ← HM.out.new]; simp)
              have sl2 := HS.out p hpn
              have slh := HSh.out p (by omega)
              have hcs : ∀ j, j < (n - p) * 2 → (wr.cell? ⟨B, p * 2 + j, none⟩).isSome = true ∧ wr.frozen? ⟨B, p * 2 + j, none⟩ = false := by
                intro j hj
                obtain ⟨⟨u1, u2⟩, u3, u4⟩ := HM.out.f.cl (p + j / 2) (by omega)
                have h7 : j % 2 = 0 ∨ j % 2 = 1 := by omega
                rcases h7 with e | e
                · rw [show p * 2 + j = (p + j / 2) * 2 by omega, u1, u3]; exact ⟨rfl, rfl⟩
                · rw [show p * 2 + j = (p + j / 2) * 2 + 1 by omega, u2, u4]; exact ⟨rfl, rfl⟩
              have cl := fun ty => run_clear2 wr ty B (p * 2) (n - p) (cap - p) (by omega) (fun j hj => (hcs j hj).1) (fun j hj => (hcs j hj).2)
              obtain ⟨w3, hw3⟩ : ∃ w3, w3 = wr.setCells B (p * 2) (List.replicate ((n - p) * 2) (.int .i64 0)) := ⟨_, rfl⟩
              rw [← hw3] at cl
              have HE : Hid (FRow w3 B (dfK c n) ∧ B < w3.heap.size ∧ Onl B w w3) := by
                have o3 : Onl B w w3 := by rw [hw3]; exact setCells_onl _ _ HC.out.2.1
                have o4 : Onl B wr w3 := by rw [hw3]; exact setCells_onl _ _ (Onl.refl _ _)
                refine ⟨fun i hi => ?_, Nat.lt_of_lt_of_le HM.out.f.lt o4.size, o3⟩
                have hip : i < p := by rw [Hp.out, HR.out]; exact hi
                rw [hw3, World.cell?_setCells_out B _ _ _ _ (fun _ _ => Or.inl (by show i * 2 < p * 2; omega)), World.cell?_setCells_out B _ _ _ _ (fun _ _ => Or.inl (by show i * 2 + 1 < p * 2; omega))]
                exact FRow.of HM.out.f (by omega) HM.out.new i hi
              clear h5 hpn hcs hw3 hm
              go_wp2
              go_ret
              exact ⟨by have k := Hp.out; subst k; rfl, HE.out⟩
            · have h5' : (m : Int) < (N2 : Int) := by omega
              have hmN : m < N2 := by omega
              have Hm := hidb (show 1 ≤ m ∧ m < N2 from ⟨hm1, hmN⟩)
              have f1 : IntKind.i64.wrap ((m : Int) + 1) = ((m + 1 : Nat) : Int) := by rw [show (m : Int) + 1 = ((m + 1 : Nat) : Int) by omega]; exact wrap_in (by have := HN.out; have := H2.out; omega) (by have := HN.out; have := H2.out; omega)
              have f2 : IntKind.i64.wrap ((m : Int) - 1) = ((m - 1 : Nat) : Int) := by rw [show (m : Int) - 1 = ((m - 1 : Nat) : Int) by omega]; exact wrap_in (by have := HN.out; have := H2.out; omega) (by have := HN.out; have := H2.out; omega)
              have hpn : p < n := by have := HC.out; have := H2.out; have := Hk.out; omega
              have f3 : IntKind.i64.wrap ((p : Int) + 1) = ((p + 1 : Nat) : Int) := by rw [show (p : Int) + 1 = ((p + 1 : Nat) : Int) by omega]; exact wrap_in (by have := HN.out; omega) (by have := HN.out; omega)
              obtain ⟨m1, hm1'⟩ : ∃ z : Int, z = ((m - 1 : Nat) : Int) := ⟨_, rfl⟩
              have iy := HI2.out m hmN
              have iy1 := HI2.out (m - 1) (by omega)
              have iz := HI.out p hpn
              rw [Nat.zero_add] at iz
              rw [← hm1'] at f2 iy1
              obtain ⟨⟨x1, x2⟩, -⟩ := HC.out.1.f.cl (k + m) (by have := H2.out; have := Hk.out; omega)
              obtain ⟨⟨y1, y2⟩, -⟩ := HC.out.1.f.cl (k + m - 1) (by have := H2.out; have := Hk.out; omega)
              obtain ⟨⟨z1, z2⟩, z3, z4⟩ := HC.out.1.f.cl p hpn
              rw [HC.out.1.old (k + m) (by omega)] at x1 x2
              rw [HC.out.1.old (k + m - 1) (by omega)] at y1 y2
              obtain ⟨q1, hq1⟩ : ∃ z, z = (k + m) * 2 := ⟨_, rfl⟩
              obtain ⟨q2, hq2⟩ : ∃ z, z = (k + m - 1) * 2 := ⟨_, rfl⟩
              rw [show O2 + m * 2 = q1 by have := H2.out; omega] at iy
              rw [show O2 + (m - 1) * 2 = q2 by have := H2.out; omega] at iy1
              rw [← hq1] at x1 x2
              rw [← hq2] at y1 y2
              by_cases h6 : c (k + m) = c (k + m - 1)
              · have HC2 : Hid (∀ q, CK (World.drewN wr q) B n c p (k + (m + 1)) d ∧ Onl B w (World.drewN wr q) ∧ p < k + (m + 1)) :=
                  fun q => ⟨(HC.out.1.skip (by omega) h6).drewN q, HC.out.2.1.drewN q, by have := HC.out; omega⟩
                rw [← h6] at y1 y2
                clear h5 h6 hq1 hq2 hm1' hmN hpn hm z1 z2 z3 z4 f3 iz
                go_upto_region 11 with fail
                go_quiet (fail)
                go_wp2
                go_roundw
                case rel => exact ⟨p, m + 1, d, by omega, Hm.out.2, rfl, by go_num, hidb (HC2.out _)⟩
                case measure => have := Hm.out; simp [intOf]; omega
              · have hne := frac_neq h6
                have HC2 : Hid (∀ q, CK (((World.drewN wr q).setCell ⟨B, p * 2, none⟩ (.int .i64 (c (k + m)).1)).setCell ⟨B, p * 2 + 1, none⟩ (.int .i64 (c (k + m)).2)) B n c (p + 1) (k + (m + 1)) (fun i => if i = p then c (k + m) else d i) ∧ Onl B w (((World.drewN wr q).setCell ⟨B, p * 2, none⟩ (.int .i64 (c (k + m)).1)).setCell ⟨B, p * 2 + 1, none⟩ (.int .i64 (c (k + m)).2)) ∧ p + 1 < k + (m + 1)) :=
                  fun q => ⟨(HC.out.1.drewN q).put (by have := H2.out; have := Hk.out; omega) HC.out.2.2 (by omega) h6, ((HC.out.2.1.drewN q).set _ _).set _ _, by have := HC.out; omega⟩
                clear h5 h6 hq1 hq2 hm1' hmN hpn hm
                go_upto_region 11 with fail
                go_quiet (fail)
                go_wp2
                go_roundw
                case rel => exact ⟨p + 1, m + 1, _, by omega, Hm.out.2, by go_num, by go_num, hidb (HC2.out _)⟩
                case measure => have := Hm.out; simp [intOf]; omega
        · have hne := frac_ne h4
          have HP2 : Hid (∀ j, 1 ≤ j → j < k + 1 → c j ≠ c (j - 1)) := fun j h1 h2 => by
            by_cases e : j = k
            · rw [e]; exact h4
            · exact HP.out j h1 (by omega)
          clear h3 hkn hk1' h4 ho1 hk
          go_upto_region 6 with fail
          go_quiet (fail)
          go_wp2
          go_roundw
          case rel => exact ⟨k + 1, by omega, Hk.out.2, by go_num, hidb ⟨HW.out.1.drewN _, HW.out.2.drewN _⟩, HP2⟩
          case measure => have := Hk.out; simp [intOf]; omega
end Go.Proofs.YtpdiefmmenfpaaaDoor
