/-
  drain: within, step, neighbour, opposite, onRim.; drain.onRim.
-/
import Derived.Test.YtlhligeicnejbaaDoorQJ4
import Derived.Test.YtlhligeicnejbaaDoorQRb
namespace Go.Proofs.YtlhligeicnejbaaDoor
open Go.RowKit

theorem dwithin_any (x lo hi : Int) (w : World) : Calls Tryd.prog 42 #[.int .i64 x, .int .i64 lo, .int .i64 hi] w fun e w' => e = .returned (.bool (inI lo hi x)) ∧ w' = w := by
  by_cases c : lo ≤ x
  · have e1 : inI lo hi x = decide (x ≤ hi) := by unfold inI; rw [decide_eq_true c]; simp
    rw [e1]
    clear e1
    go_enter Tryd.func42, Tryd.ntmps42
    go_wp2
    go_ret
    exact ⟨by simp, rfl⟩
  · have e1 : inI lo hi x = false := by unfold inI; rw [decide_eq_false c]; simp
    rw [e1]
    clear e1
    go_enter Tryd.func42, Tryd.ntmps42
    go_wp2
    go_ret
    exact ⟨by simp, rfl⟩
theorem step_any (d : Nat) (hd : d ≤ 8) (w : World) : Calls Tryd.prog 43 #[.int .i64 (d : Int)] w fun e w' => e = .returned (.tuple #[.int .i64 (dE d), .int .i64 (dN d)]) ∧ w' = w := by
  match d, hd with
  | 0, _ | 1, _ | 2, _ | 3, _ | 4, _ | 5, _ | 6, _ | 7, _ | 8, _ =>
    go_enter Tryd.func43, Tryd.ntmps43
    go_wp2
    go_ret2
    exact ⟨rfl, rfl⟩
theorem opposite_any (d : Nat) (hd : d < 8) (w : World) : Calls Tryd.prog 52 #[.int .i64 (d : Int)] w fun e w' => e = .returned (.int .i64 (((d + 4) % 8 : Nat) : Int)) ∧ w' = w := by
  match d, hd with
  | 0, _ | 1, _ | 2, _ | 3, _ | 4, _ | 5, _ | 6, _ | 7, _ =>
    go_enter Tryd.func52, Tryd.ntmps52
    go_wp2
    go_ret
    exact ⟨rfl, rfl⟩
/-- What neighbour answers. -/
def nbA (o : Option Nat) : Value := match o with
  | none => .tuple #[.int .i64 0, .bool false]
  | some k => .tuple #[.int .i64 (k : Int), .bool true]
theorem inI_of {lo hi x : Int} (h : lo ≤ x ∧ x ≤ hi) : inI lo hi x = true := by unfold inI; rw [decide_eq_true h.1, decide_eq_true h.2]; rfl
theorem inI_not {lo hi x : Int} (h : ¬ (lo ≤ x ∧ x ≤ hi)) : inI lo hi x = false := by
  unfold inI; rw [← Bool.decide_and]; exact decide_eq_false h
theorem dir_le {d : Nat} : (-1 ≤ dE d ∧ dE d ≤ 1) ∧ (-1 ≤ dN d ∧ dN d ≤ 1) := by
  constructor
  · unfold dE; split <;> (try split) <;> omega
  · unfold dN; split <;> (try split) <;> omega
set_option maxRecDepth 4000 in
set_option maxHeartbeats 8000000 in
theorem neighbour_any {m n : Nat} (ad : Option Addr) (len cap : Nat) (c d : Nat) (hm : 1 ≤ m) (hm2 : m ≤ 128) (hn2 : n ≤ 128) (hc : c ≤ 16384) (hcl : c < len ∧ len ≤ 16384) (hd : d ≤ 8) (w : World) : Calls Tryd.prog 32 #[raV m n (.slice ad len cap), .int .i64 (c : Int), .int .i64 (d : Int)] w fun e w' => e = .returned (nbA (nbO m n c d)) ∧ Gr w w' := by
  have HW := hidb ((Gr.refl w).alloc (.cells #[.int .i64 (m : Int), .int .i64 (n : Int), .slice ad len cap] 32))
  have A1 := At.new3 w (.int .i64 (m : Int)) (.int .i64 (n : Int)) (.slice ad len cap) 32
  have HS := hidb (fun w => step_any d hd w)
  obtain ⟨⟨dE1, dE2⟩, ⟨dN1, dN2⟩⟩ := dir_le (d := d)
  obtain ⟨cI, hcI⟩ : ∃ z : Int, z = (c : Int) := ⟨_, rfl⟩
  obtain ⟨mI, hmI⟩ : ∃ z : Int, z = (m : Int) := ⟨_, rfl⟩
  obtain ⟨nI, hnI⟩ : ∃ z : Int, z = (n : Int) := ⟨_, rfl⟩
  obtain ⟨dI, hdI⟩ : ∃ z : Int, z = (d : Int) := ⟨_, rfl⟩
  obtain ⟨q1, r1, s1, s2⟩ := nat_q hcI hmI (by omega)
  have b1 : c % m ≤ c := Nat.mod_le _ _
  have b2 : c / m ≤ c := Nat.div_le_self _ _
  have e0 : ¬ mI = 0 := by omega
  have HN : Hid (nbO m n c d = if d = 8 ∨ ¬ (0 ≤ ((c % m : Nat) : Int) + dE d ∧ ((c % m : Nat) : Int) + dE d ≤ (m : Int) - 1) ∨ ¬ (0 ≤ ((c / m : Nat) : Int) - dN d ∧ ((c / m : Nat) : Int) - dN d ≤ (n : Int) - 1) then none else some ((((c / m : Nat) : Int) - dN d).toNat * m + (((c % m : Nat) : Int) + dE d).toNat)) := rfl
  generalize nbO m n c d = o at *
  generalize dE d = de at *
  generalize dN d = dn at *
  obtain ⟨cm, hcm⟩ : ∃ z : Nat, z = c % m := ⟨_, rfl⟩
  obtain ⟨cq, hcq⟩ : ∃ z : Nat, z = c / m := ⟨_, rfl⟩
  rw [← hcm] at r1 s2 b1 HN
  rw [← hcq] at q1 s1 b2 HN
  obtain ⟨x, hx, e1⟩ : ∃ z : Int, z = (cm : Int) + de ∧ IntKind.i64.wrap ((cm : Int) + de) = z := ⟨_, rfl, wrap_in (by omega) (by omega)⟩
  obtain ⟨y, hy, e2⟩ : ∃ z : Int, z = (cq : Int) - dn ∧ IntKind.i64.wrap ((cq : Int) - dn) = z := ⟨_, rfl, wrap_in (by omega) (by omega)⟩
  obtain ⟨m1, hm1, e3⟩ : ∃ z : Int, z = (m : Int) - 1 ∧ IntKind.i64.wrap (mI - 1) = z := ⟨_, rfl, by rw [hmI]; exact wrap_in (by omega) (by omega)⟩
  obtain ⟨n1, hn1, e4⟩ : ∃ z : Int, z = (n : Int) - 1 ∧ IntKind.i64.wrap (nI - 1) = z := ⟨_, rfl, by rw [hnI]; exact wrap_in (by omega) (by omega)⟩
  rw [← hx, ← hy, ← hm1, ← hn1] at HN
  rw [← hdI] at HS
  rw [← hmI, ← hnI] at HW A1
  show Calls Tryd.prog 32 #[.agg #[.int .i64 (m : Int), .int .i64 (n : Int), .slice ad len cap], .int .i64 (c : Int), .int .i64 (d : Int)] w _
  rw [← hmI, ← hnI, ← hcI, ← hdI]
  obtain ⟨l1, hl1, e7⟩ : ∃ z : Int, z = (len : Int) - 1 ∧ IntKind.i64.wrap ((len : Int) - 1) = z := ⟨_, rfl, wrap_in (by omega) (by omega)⟩
  have P0 := hidb (fun w => dwithin_any cI 0 l1 w)
  rw [inI_of (show 0 ≤ cI ∧ cI ≤ l1 by omega)] at P0
  have P3 := hidb (fun w => dwithin_any dI 0 7 w)
  have em : ¬ mI < 1 := by omega
  have HD : Hid (¬ dI = 8 → inI 0 7 dI = true) := fun h => inI_of (by omega)
  have HK := hidb (show mI = (m : Int) ∧ dI = (d : Int) ∧ m1 = (m : Int) - 1 ∧ n1 = (n : Int) - 1 ∧ m ≤ 128 ∧ n ≤ 128 from ⟨hmI, hdI, hm1, hn1, hm2, hn2⟩)
  clear dE1 dE2 dN1 dN2 hcl hl1 hcI hmI hnI hdI hd hcm hcq hx hy hm1 hn1 b1 b2 hm hm2 hn2 hc
  by_cases c8 : dI = 8
  · have ho : o = none := by rw [HN.out, if_pos (.inl (by have := HK.out; omega))]
    subst ho
    subst c8
    rw [show inI 0 7 8 = false from rfl] at P3
    go_enter Tryd.func32, Tryd.ntmps32
    go_wp2_with fail
    refine (P0.out _).mono ?_
    rintro e w8 ⟨rfl, rfl⟩
    go_wp2_with fail
    refine (P3.out _).mono ?_
    rintro e w9 ⟨rfl, rfl⟩
    go_wp2
    go_ret2
    exact ⟨rfl, HW.out⟩
  · rw [HD.out c8] at P3
    by_cases c9 : 0 ≤ x ∧ x ≤ m1
    · have H1 := hidb (inI_of c9)
      by_cases c10 : 0 ≤ y ∧ y ≤ n1
      · have H2 := hidb (inI_of c10)
        have ho : o = some (y.toNat * m + x.toNat) := by rw [HN.out, if_neg (by rintro (h | h | h); exact c8 (by have := HK.out; omega); exact h c9; exact h c10)]
        have hym : y * mI = ((y.toNat * m : Nat) : Int) := by rw [HK.out.1, Int.natCast_mul, Int.toNat_of_nonneg c10.1]
        have hle : y.toNat * m ≤ 128 * 128 := Nat.mul_le_mul (by have := HK.out; omega) (by have := HK.out; omega)
        obtain ⟨t, ht, e5⟩ : ∃ z : Int, z = ((y.toNat * m : Nat) : Int) ∧ IntKind.i64.wrap (y * mI) = z := ⟨_, rfl, by rw [hym]; exact wrap_in (by omega) (by omega)⟩
        obtain ⟨k, hk, e6⟩ : ∃ z : Int, z = ((y.toNat * m + x.toNat : Nat) : Int) ∧ IntKind.i64.wrap (t + x) = z := ⟨_, rfl, by rw [ht, show ((y.toNat * m : Nat) : Int) + x = ((y.toNat * m + x.toNat : Nat) : Int) by omega]; exact wrap_in (by have := HK.out; omega) (by have := HK.out; omega)⟩
        have HE : Hid (nbA o = .tuple #[.int .i64 k, .bool true]) := by show _ = _; rw [ho, hk]; rfl
        have P1 := hidb (fun w => dwithin_any x 0 m1 w)
        rw [H1.out] at P1
        have P2 := hidb (fun w => dwithin_any y 0 n1 w)
        rw [H2.out] at P2
        clear ho hym hle ht hk c9 c10 H1 H2 HN
        go_enter Tryd.func32, Tryd.ntmps32
        go_wp2_with fail
        refine (P0.out _).mono ?_
        rintro e w8 ⟨rfl, rfl⟩
        go_wp2_with fail
        refine (P3.out _).mono ?_
        rintro e w9 ⟨rfl, rfl⟩
        go_wp2_with fail
        refine (HS.out _).mono ?_
        rintro e w1 ⟨rfl, rfl⟩
        go_upto_region 2 with fail
        go_quiet (fail)
        go_wp2_with fail
        refine (P1.out _).mono ?_
        rintro e w2 ⟨rfl, rfl⟩
        go_wp2_with fail
        refine (P2.out _).mono ?_
        rintro e w3 ⟨rfl, rfl⟩
        go_wp2
        go_ret2
        exact ⟨by rw [HE.out]; rfl, HW.out.drewN _⟩
      · have H2 := hidb (inI_not c10)
        have ho : o = none := by rw [HN.out, if_pos (.inr (.inr c10))]
        subst ho
        have P1 := hidb (fun w => dwithin_any x 0 m1 w)
        rw [H1.out] at P1
        have P2 := hidb (fun w => dwithin_any y 0 n1 w)
        rw [H2.out] at P2
        clear c9 c10 H1 H2 HN
        go_enter Tryd.func32, Tryd.ntmps32
        go_wp2_with fail
        refine (P0.out _).mono ?_
        rintro e w8 ⟨rfl, rfl⟩
        go_wp2_with fail
        refine (P3.out _).mono ?_
        rintro e w9 ⟨rfl, rfl⟩
        go_wp2_with fail
        refine (HS.out _).mono ?_
        rintro e w1 ⟨rfl, rfl⟩
        go_upto_region 2 with fail
        go_quiet (fail)
        go_wp2_with fail
        refine (P1.out _).mono ?_
        rintro e w2 ⟨rfl, rfl⟩
        go_wp2_with fail
        refine (P2.out _).mono ?_
        rintro e w3 ⟨rfl, rfl⟩
        go_wp2
        go_ret2
        exact ⟨rfl, HW.out.drewN _⟩
    · have H1 := hidb (inI_not c9)
      have ho : o = none := by rw [HN.out, if_pos (.inr (.inl c9))]
      subst ho
      have P1 := hidb (fun w => dwithin_any x 0 m1 w)
      rw [H1.out] at P1
      clear c9 H1 HN
      go_enter Tryd.func32, Tryd.ntmps32
      go_wp2_with fail
      refine (P0.out _).mono ?_
      rintro e w8 ⟨rfl, rfl⟩
      go_wp2_with fail
      refine (P3.out _).mono ?_
      rintro e w9 ⟨rfl, rfl⟩
      go_wp2_with fail
      refine (HS.out _).mono ?_
      rintro e w1 ⟨rfl, rfl⟩
      go_upto_region 2 with fail
      go_quiet (fail)
      go_wp2_with fail
      refine (P1.out _).mono ?_
      rintro e w2 ⟨rfl, rfl⟩
      go_wp2
      go_ret2
      exact ⟨rfl, HW.out.drewN _⟩
end Go.Proofs.YtlhligeicnejbaaDoor
namespace Go.Proofs.YtlhligeicnejbaaDoor
open Go.RowKit

set_option maxRecDepth 4000 in
set_option maxHeartbeats 8000000 in
theorem onRim_any {m n : Nat} (ad : Option Addr) (len cap : Nat) (c : Nat) (hm : 1 ≤ m) (hm2 : m ≤ 128) (hn2 : n ≤ 128) (hc : c < m * n) (hll : len = m * n) (w : World) : Calls Tryd.prog 36 #[raV m n (.slice ad len cap), .int .i64 (c : Int)] w fun e w' => e = .returned (.bool (decide (rim m n c))) ∧ Gr w w' := by
  have hle : m * n ≤ 128 * 128 := Nat.mul_le_mul hm2 hn2
  have HN := hidb (fun d (hd : d ≤ 8) w => neighbour_any ad len cap c d hm hm2 hn2 (by omega : c ≤ 16384) (by omega) hd w)
  have HR := hidb (rim_iff hc)
  have A1 := hidb (At.new3 w (.int .i64 (m : Int)) (.int .i64 (n : Int)) (.slice ad len cap) 32)
  have HW := hidb ((Gr.refl w).alloc (.cells #[.int .i64 (m : Int), .int .i64 (n : Int), .slice ad len cap] 32))
  obtain ⟨r, hr⟩ : ∃ z : Bool, z = decide (rim m n c) := ⟨_, rfl⟩
  rw [← hr]
  have HRr := hidb hr
  clear hll hr hm hm2 hn2 hc hle
  go_enter Tryd.func36, Tryd.ntmps36
  go_wp2
  generalize w.alloc (.cells #[.int .i64 (m : Int), .int .i64 (n : Int), .slice ad len cap] 32) = w1 at *
  go_loopw [8] (fun t wr => ∃ (k : Nat), k ≤ 8 ∧ t = .int .i64 (k : Int) ∧ Hid ((∀ d, d < k → nbO m n c d ≠ none) ∧ Gr w1 wr)) (fun t _ => 8 - (intOf t).toNat)
  case atStart => exact ⟨0, Nat.zero_le _, rfl, hidb ⟨fun d hd => absurd hd (Nat.not_lt_zero _), Gr.refl _⟩⟩
  case round =>
    obtain ⟨k, hk, rfl, E⟩ := hrel
    by_cases h1 : k < 8
    · have h1' : (k : Int) < 8 := by omega
      obtain ⟨q0, q1, q2⟩ := (At.below E.out.2.out A1.out).c3
      have e1 : IntKind.i64.wrap ((k : Int) + 1) = ((k + 1 : Nat) : Int) := wrap_in (by omega) (by omega)
      have HK := hidb (HN.out k (by omega) wr)
      cases ho : nbO m n c k with
      | none =>
        have HE : Hid (r = true) := by show _ = _; rw [HRr.out]; exact decide_eq_true (HR.out.2 ⟨k, h1, ho⟩)
        rw [ho] at HK
        clear ho h1
        go_wp2_with fail
        refine HK.out.mono ?_
        rintro e w2 ⟨rfl, hB⟩
        unfold nbA
        go_wp2
        go_ret
        exact ⟨by rw [HE.out]; rfl, Gr.step (Gr.step HW.out E.out.2.out) hB.out⟩
      | some kk =>
        have HE : Hid (∀ d, d < k + 1 → nbO m n c d ≠ none) := fun d hd => by
          by_cases e : d = k
          · rw [e, ho]; exact fun h => by cases h
          · exact E.out.1 d (by omega)
        rw [ho] at HK
        clear ho h1
        go_wp2_with fail
        refine HK.out.mono ?_
        rintro e w2 ⟨rfl, hB⟩
        unfold nbA
        go_wp2
        go_roundw
        case rel => exact ⟨k + 1, by omega, by go_num, hidb ⟨HE.out, Gr.step E.out.2 hB.out⟩⟩
        case measure => simp [intOf]; omega
    · have HE : Hid (r = false) := by
        show _ = _
        rw [HRr.out]
        refine decide_eq_false (fun h => ?_)
        obtain ⟨d, hd, hn⟩ := HR.out.1 h
        exact E.out.1 d (by omega) hn
      have h1' : ¬ (k : Int) < 8 := by omega
      clear h1
      go_wp2
      go_ret
      exact ⟨by rw [HE.out]; rfl, Gr.step HW.out E.out.2.out⟩
end Go.Proofs.YtlhligeicnejbaaDoor
