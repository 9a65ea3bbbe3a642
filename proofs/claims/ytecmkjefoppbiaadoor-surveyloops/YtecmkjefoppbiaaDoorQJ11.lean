/-
  whole.shifted, whole.lowered, whole.guess.; whole.divided, whole.divisor.
-/
import Derived.Test.YtecmkjefoppbiaaDoorQWhH
import Derived.Deep.RegionLaw
import Derived.Deep.LoopGhost
namespace Go.Proofs.YtecmkjefoppbiaaDoor
open Go.RowKit WH

set_option maxRecDepth 4000 in
set_option maxHeartbeats 4000000 in
/-- The row's block is new: all that it holds is told. -/
theorem wshift_any {w : World} {u : Value} {a : List Nat} {s : Nat} (hda : Dg a) (la : a.length ≤ 400) (hs : s ≤ 63) (ha : Pt w u a) : Calls Tryd.prog 60 #[u, .int .i64 (s : Int)] w fun e w' => ∃ o, e = .returned (.slice (some ⟨w.heap.size, 0, none⟩) (a.length + 1) (a.length + 1)) ∧ o.length = a.length + 1 ∧ Dg o ∧ dv o = dv a * 2 ^ s ∧ At w' w.heap.size (us o) ∧ Gr w w' := by
  obtain ⟨ad, ba, ca, rfl, ra⟩ := ha.rd0
  have RA := hidb ra
  have HA := hidb hda
  obtain ⟨i0, hi, hz0, hz1, hz2⟩ := info_parts infoU
  clear ha ra hda
  obtain ⟨p, hp⟩ : ∃ p, p = a.length := ⟨_, rfl⟩
  rw [← hp] at la
  rw [← hp]
  have HP := hidb hp
  have IA := hidb RA.out.ix
  rw [← hp] at IA
  clear hp
  have S3 : (s : Int) ≤ 63 := by omega
  have HS := hidb hs
  go_enter Tryd.func60, Tryd.ntmps60
  go_wp2_with (refine wpList_make_full _ rfl _ _ 63 rfl w.heap.size 105 i0 (.int .u64 0) 1 undU hi hz0 hz1 .i64 .i64 _ _ (p + 1) rfl rfl (by omega) (by omega) (by rw [hz2]; omega) (by unfold maxLen; omega) (Nat.le_refl _) ?_)
  intro w1 hown hgrow
  have HG : Hid (Onl w.heap.size w w1) := Onl.grown hgrow
  have HK : Hid (At w1 w.heap.size (us (List.replicate (p + 1) 0))) := by
    rw [made_us] at hown
    exact (own_blk hown).at
  clear hown hgrow
  have IX : Hid (∀ k : Nat, k < p + 1 → ∀ w', (Instr.indexAt 63 (.slice (some ⟨w.heap.size, 0, none⟩) (p + 1) (p + 1)) (.int .i64 k)).run Tryd.prog w' = .ok (.pointer (some ⟨w.heap.size, k, none⟩)) w') := fun k hk w' => uindex0 _ _ _ k hk w'
  obtain ⟨sv, hsv⟩ : ∃ sv, sv = Value.slice (some ⟨w.heap.size, 0, none⟩) (p + 1) (p + 1) := ⟨_, rfl⟩
  rw [← hsv] at IX ⊢
  have SV := hidb hsv
  clear hsv
  go_wp2
  go_loopw [14] (fun t wr => ∃ (i : Nat) (o : List Nat), i ≤ p ∧ t = .int .i64 (i : Int) ∧ Hid (ShI a o s i) ∧ Hid (At wr w.heap.size (us o)) ∧ Hid (Onl w.heap.size w wr)) (fun t _ => p - (intOf t).toNat)
  case atStart => exact ⟨0, List.replicate (p + 1) 0, Nat.zero_le _, rfl, by rw [HP.out]; exact ShI.start a s, HK.out, HG.out⟩
  case round =>
    obtain ⟨i, o, hip, rfl, HM, HO, HW⟩ := hrel
    clear HK HG
    by_cases h1 : i < p
    · have h1a : i < a.length := by rw [← HP.out]; exact h1
      have cella := RA.out.cell h1a HW.out
      have xa := HA.out.get h1a
      have ixa := IA.out i h1
      have hj : i < o.length := by rw [HM.out.len, ← HP.out]; omega
      have hj1 : i + 1 < o.length := by rw [HM.out.len, ← HP.out]; omega
      obtain ⟨cello, fro⟩ := HO.out.ucell hj
      obtain ⟨cello1, fro1⟩ := HO.out.ucell hj1
      have ixo := IX.out i (by omega)
      have ixo1 : ∀ w', (Instr.indexAt 63 sv (.int .i64 ((i : Int) + 1))).run Tryd.prog w' = .ok (.pointer (some ⟨w.heap.size, i + 1, none⟩)) w' := by
        intro w'
        have := IX.out (i + 1) (by omega) w'
        rw [Int.natCast_add] at this; exact this
      have ST := hidb (HM.out.step HS.out h1a xa hj)
      obtain ⟨or1, or2⟩ := up_or (x := a[i]) HS.out (HM.out.top hj)
      have zl := HM.out.dg.get hj
      generalize a[i] = x at *
      generalize o[i] = z at *
      have xm : x * 2 ^ s % 18446744073709551616 < 18446744073709551616 := Nat.mod_lt _ (by decide)
      have hor : bits .or .u64 (z : Int) (IntKind.u64.wrap ((x : Int) * 2 ^ s)) = ((z + x * 2 ^ s % 18446744073709551616 : Nat) : Int) := by
        rw [wrap_powm, bits_or_u64_nat _ _ zl xm, or1]
      have hsh : (x : Int) / 2 ^ (64 - s) = ((x / 2 ^ (64 - s) : Nat) : Int) := div_pow
      obtain ⟨f, hf⟩ : ∃ f, f = z + x * 2 ^ s % 18446744073709551616 := ⟨_, rfl⟩
      obtain ⟨g, hg⟩ : ∃ g, g = x / 2 ^ (64 - s) := ⟨_, rfl⟩
      rw [← hf] at hor
      rw [← hg] at hsh
      rw [← hf, ← hg] at ST
      have HF := hidb hf
      have HG2 := hidb hg
      clear hf hg or1 or2 xm HM
      go_upto_region 5 with fail
      go_region_law (fail)
      go_wp2
      go_roundw
      case rel => exact ⟨i + 1, (o.set i f).set (i + 1) g, by omega, by go_num, ST.out, (HO.out.uput i f).uput (i + 1) g, (HW.out.drew.set i _).set (i + 1) _⟩
      case measure => simp [intOf]; omega
    · have hip2 : i = a.length := by rw [← HP.out]; omega
      have HE : Hid (dv o = dv a * 2 ^ s) := ShI.done (by rw [← hip2]; exact HM.out)
      have ml : Hid (o.length = p + 1) := by rw [HP.out]; exact HM.out.len
      clear hip2
      go_wp2
      go_ret
      exact ⟨o, by rw [SV.out]; rfl, ml.out, HM.out.dg, HE.out, HO.out, Onl.of (Below.refl _ _) HW.out (Nat.le_refl _)⟩
set_option maxRecDepth 4000 in
set_option maxHeartbeats 4000000 in
theorem wlower_any {w : World} {u : Value} {a : List Nat} {s : Nat} (hda : Dg a) (la : a.length ≤ 500) (hs : s ≤ 63) (ha : Pt w u a) : Calls Tryd.prog 64 #[u, .int .i64 (s : Int)] w fun e w' => ∃ r, e = .returned r ∧ Pt w' r (dn (dv a / 2 ^ s)) ∧ Gr w w' := by
  obtain ⟨ad, ba, ca, rfl, ra⟩ := ha.rd0
  have RA := hidb ra
  have HA := hidb hda
  obtain ⟨i0, hi, hz0, hz1, hz2⟩ := info_parts infoU
  clear ha ra hda
  obtain ⟨p, hp⟩ : ∃ p, p = a.length := ⟨_, rfl⟩
  rw [← hp] at la
  rw [← hp]
  have HP := hidb hp
  have IA := hidb RA.out.ix
  rw [← hp] at IA
  clear hp
  have S3 : (s : Int) ≤ 63 := by omega
  have HS := hidb hs
  go_enter Tryd.func64, Tryd.ntmps64
  go_wp2_with (refine wpList_make_full _ rfl _ _ 63 rfl w.heap.size 105 i0 (.int .u64 0) 1 undU hi hz0 hz1 .i64 .i64 _ _ p rfl rfl rfl rfl (by rw [hz2]; omega) (by unfold maxLen; omega) (Nat.le_refl _) ?_)
  intro w1 hown hgrow
  have HG : Hid (Onl w.heap.size w w1) := Onl.grown hgrow
  have HK : Hid (At w1 w.heap.size (us (List.replicate p 0))) := by
    rw [made_us] at hown
    exact (own_blk hown).at
  clear hown hgrow
  have IX : Hid (∀ k : Nat, k < p → ∀ w', (Instr.indexAt 63 (.slice (some ⟨w.heap.size, 0, none⟩) p p) (.int .i64 k)).run Tryd.prog w' = .ok (.pointer (some ⟨w.heap.size, k, none⟩)) w') := fun k hk w' => uindex0 _ _ _ k hk w'
  obtain ⟨sv, hsv⟩ : ∃ sv, sv = Value.slice (some ⟨w.heap.size, 0, none⟩) p p := ⟨_, rfl⟩
  rw [← hsv] at IX ⊢
  have SV := hidb hsv
  clear hsv
  go_wp2
  go_loopw [13] (fun t wr => ∃ (i : Nat) (o : List Nat), i ≤ p ∧ t = .int .i64 (i : Int) ∧ Hid (LoI a o s i) ∧ Hid (At wr w.heap.size (us o)) ∧ Hid (Onl w.heap.size w wr)) (fun t _ => p - (intOf t).toNat)
  case atStart => exact ⟨0, List.replicate p 0, Nat.zero_le _, rfl, by rw [HP.out]; exact LoI.start a s, HK.out, HG.out⟩
  case round =>
    obtain ⟨i, o, hip, rfl, HM, HO, HW⟩ := hrel
    clear HK HG
    by_cases h1 : i < p
    · have h1a : i < a.length := by rw [← HP.out]; exact h1
      have cella := RA.out.cell h1a HW.out
      have xa := HA.out.get h1a
      have ixa := IA.out i h1
      have hj : i < o.length := by rw [HM.out.len, ← HP.out]; omega
      obtain ⟨cello, fro⟩ := HO.out.ucell hj
      have ixo := IX.out i (by omega)
      rcases Nat.eq_zero_or_pos i with h0 | h0
      · subst h0
        simp only [show ((0 : Nat) : Int) = 0 from rfl] at ixa ixo
        have ST := hidb (HM.out.first HS.out h1a xa hj)
        generalize a[0] = x at *
        have hsh : (x : Int) / 2 ^ s = ((x / 2 ^ s : Nat) : Int) := div_pow
        obtain ⟨g, hg⟩ : ∃ g, g = x / 2 ^ s := ⟨_, rfl⟩
        rw [← hg] at hsh ST
        have HG2 := hidb hg
        clear hg HM
        go_wp2
        go_roundw
        case rel => exact ⟨1, o.set 0 g, by omega, by go_num, ST.out, HO.out.uput 0 g, HW.out.set 0 _⟩
        case measure => simp [intOf]; omega
      · obtain ⟨j, rfl⟩ : ∃ j, i = j + 1 := ⟨i - 1, by omega⟩
        have hj0 : j < o.length := by omega
        obtain ⟨cellj, frj⟩ := HO.out.ucell hj0
        have ixj := IX.out j (by omega)
        have ej : ((j + 1 : Nat) : Int) - 1 = (j : Int) := by omega
        have pj : (0 : Int) < ((j + 1 : Nat) : Int) := by omega
        push_cast at ixa ixo
        have hwj : IntKind.i64.wrap (j : Int) = (j : Int) := by rw [IntKind.wrap_i64]; omega
        have hws : IntKind.i64.wrap (64 - (s : Int)) = ((64 - s : Nat) : Int) := by rw [IntKind.wrap_i64]; omega
        have ST := hidb (HM.out.step HS.out h1a xa hj)
        obtain ⟨or1, or2⟩ := dn_or (x := a[j + 1]) HS.out (HM.out.top j hj0 rfl)
        have zl := HM.out.dg.get hj0
        generalize a[j + 1] = x at *
        generalize o[j] = z at *
        have xm : x * 2 ^ (64 - s) % 18446744073709551616 < 18446744073709551616 := Nat.mod_lt _ (by decide)
        have hor : bits .or .u64 (z : Int) (IntKind.u64.wrap ((x : Int) * 2 ^ (64 - s))) = ((z + x * 2 ^ (64 - s) % 18446744073709551616 : Nat) : Int) := by
          rw [wrap_powm, bits_or_u64_nat _ _ zl xm, or1]
        have hsh : (x : Int) / 2 ^ s = ((x / 2 ^ s : Nat) : Int) := div_pow
        obtain ⟨f, hf⟩ : ∃ f, f = z + x * 2 ^ (64 - s) % 18446744073709551616 := ⟨_, rfl⟩
        obtain ⟨g, hg⟩ : ∃ g, g = x / 2 ^ s := ⟨_, rfl⟩
        rw [← hf] at hor
        rw [← hg] at hsh
        rw [← hf, ← hg] at ST
        have HF := hidb hf
        have HG2 := hidb hg
        clear hf hg or1 or2 xm HM
        go_upto_region 7 with fail
        go_region_law (fail)
        go_wp2
        go_roundw
        case rel => exact ⟨j + 1 + 1, (o.set (j + 1) g).set j f, by omega, by go_num, ST.out, (HO.out.uput (j + 1) g).uput j f, ((HW.out.set (j + 1) _).drew.set j _)⟩
        case measure => simp [intOf]; omega
    · have hip2 : i = a.length := by rw [← HP.out]; omega
      have HE : Hid (dv o = dv a / 2 ^ s) := LoI.done (by rw [← hip2]; exact HM.out)
      have ml : o.length = p := by rw [HP.out]; exact HM.out.len
      have HPt : Hid (Pt wr sv o) := .inr ⟨w.heap.size, p, by rw [ml]; exact SV.out, by omega, by unfold maxLen; omega, HO.out.urow⟩
      clear hip2
      go_wp2_with fail
      refine (wtrim_any HM.out.dg HPt.out).mono ?_
      rintro e w4 ⟨r, rfl, hr, rfl⟩
      rw [HE.out] at hr
      go_wp2
      go_ret
      exact ⟨_, rfl, hr, Onl.of (Below.refl _ _) HW.out (Nat.le_refl _)⟩
theorem wguess_any (hi lo y : Nat) (_h1 : hi < 18446744073709551616) (h2 : lo < 18446744073709551616) (h3 : y < 18446744073709551616) (w : World) : Calls Tryd.prog 61 #[.int .u64 (hi : Int), .int .u64 (lo : Int), .int .u64 (y : Int)] w fun e w' => e = .returned (.int .u64 ((if y ≤ hi then 18446744073709551615 else (hi * 18446744073709551616 + lo) / y : Nat) : Int)) ∧ Gr w w' := by
  by_cases c : y ≤ hi
  · rw [if_pos c]
    go_enter Tryd.func61, Tryd.ntmps61
    go_wp2
    go_ret
    exact ⟨rfl, Gr.refl _⟩
  · rw [if_neg c]
    obtain ⟨q, hq⟩ : ∃ q, (hi * 18446744073709551616 + lo) / y = q := ⟨_, rfl⟩
    obtain ⟨r, hr⟩ : ∃ r, (hi * 18446744073709551616 + lo) % y = r := ⟨_, rfl⟩
    have HD := hidb (fun w => div64 hi lo y q r hq hr h2 (by omega) h3 w)
    rw [hq]
    clear hq hr
    go_enter Tryd.func61, Tryd.ntmps61
    go_wp2_with fail
    refine (HD.out _).mono ?_
    rintro e w1 ⟨rfl, hB⟩
    go_wp2
    go_ret
    exact ⟨rfl, hB⟩
end Go.Proofs.YtecmkjefoppbiaaDoor
namespace Go.Proofs.YtecmkjefoppbiaaDoor
open Go.RowKit WH

theorem div64Q_low (lo y q r : Nat) (hq : lo / y = q) (hr : lo % y = r) (hl : lo < 18446744073709551616) (h0 : 0 < y) (w : World) : Calls Tryd.prog 66 #[.int .u64 0, .int .u64 (lo : Int), .int .u64 (y : Int)] w fun e w' => e = .returned (.tuple #[.int .u64 (q : Int), .int .u64 (r : Int)]) ∧ ∃ m, w' = w.drewN m := by
  have y0 : ¬ (y : Int) = 0 := by omega
  have y1 : ¬ (y : Int) ≤ 0 := by omega
  have t1 : (lo : Int).tdiv (y : Int) = (q : Int) := by rw [← hq]; rfl
  have t2 : (lo : Int).tmod (y : Int) = (r : Int) := by rw [← hr]; rfl
  have d1 : lo / y ≤ lo := Nat.div_le_self _ _
  have d2 : lo % y ≤ lo := Nat.mod_le _ _
  have w1 : IntKind.u64.wrap (q : Int) = q := wr_nat (by omega)
  have w2 : IntKind.u64.wrap (r : Int) = r := wr_nat (by omega)
  clear hl h0 d1 d2 hq hr
  go_enter Tryd.func66, Tryd.ntmps66
  go_wp2
  go_quiet (fail)
  go_wp2
  go_ret2
  exact ⟨rfl, _, rfl⟩
theorem div64Q (hi lo y q r : Nat) (hq : (hi * 18446744073709551616 + lo) / y = q) (hr : (hi * 18446744073709551616 + lo) % y = r) (hl : lo < 18446744073709551616) (h0 : hi < y) (h1 : y < 18446744073709551616) (w : World) : Calls Tryd.prog 66 #[.int .u64 (hi : Int), .int .u64 (lo : Int), .int .u64 (y : Int)] w fun e w' => e = .returned (.tuple #[.int .u64 (q : Int), .int .u64 (r : Int)]) ∧ ∃ m, w' = w.drewN m := by
  rcases Nat.eq_zero_or_pos hi with h | h
  · subst h
    rw [Nat.zero_mul, Nat.zero_add] at hq hr
    exact div64Q_low lo y q r hq hr hl (by omega) w
  · refine (div64_gen hi lo y q r hq.symm hr.symm h hl h0 h1 w).mono ?_
    rintro e w' ⟨rfl, rfl⟩
    exact ⟨rfl, 0, rfl⟩
theorem guessQ_any (hi lo y g : Nat) (h2 : lo < 18446744073709551616) (h3 : y < 18446744073709551616) (hg : g = if y ≤ hi then 18446744073709551615 else (hi * 18446744073709551616 + lo) / y) (w : World) : Calls Tryd.prog 61 #[.int .u64 (hi : Int), .int .u64 (lo : Int), .int .u64 (y : Int)] w fun e w' => e = .returned (.int .u64 (g : Int)) ∧ ∃ m, w' = w.drewN m := by
  by_cases c : y ≤ hi
  · rw [if_pos c] at hg
    subst hg
    go_enter Tryd.func61, Tryd.ntmps61
    go_wp2
    go_ret
    exact ⟨rfl, 0, rfl⟩
  · rw [if_neg c] at hg
    obtain ⟨r, hr⟩ : ∃ r, (hi * 18446744073709551616 + lo) % y = r := ⟨_, rfl⟩
    have HD := hidb (fun w => div64Q hi lo y g r hg.symm hr h2 (by omega) h3 w)
    clear hg hr
    go_enter Tryd.func61, Tryd.ntmps61
    go_wp2_with fail
    refine (HD.out _).mono ?_
    rintro e w1 ⟨rfl, m, rfl⟩
    go_wp2
    go_ret
    exact ⟨rfl, m, rfl⟩
theorem uslice (H N j k : Nat) (h0 : j < N) (h1 : j ≤ k) (h2 : k ≤ N) (w : World) : (Instr.slice 63 (.slice (some ⟨H, 0, none⟩) N N) (some (.int .i64 (j : Int))) (some (.int .i64 (k : Int))) none).run Tryd.prog w = .ok (.slice (some ⟨H, j, none⟩) (k - j) (N - j)) w := by
  have hu : Tryd.prog.underlying 63 = some (.slice (Tryd.prog.elem 63)) := by kernel_rfl
  have hs : (sizeOf (Tryd.prog.elem 63)).run Tryd.prog w = .ok 1 w := by kernel_rfl
  rw [run_slice_lh w 63 _ N N hu .i64 .i64 (j : Int) (k : Int) (by omega) (by omega) (by omega), hs]
  have hne : ¬ N = j := by omega
  have hadd : (⟨H, 0, none⟩ : Addr).add j = ⟨H, j, none⟩ := by unfold Addr.add; split <;> simp_all
  simp [Result.andThen, sliced, hne, hadd]
/-- The highest digit is none. -/
theorem dn_top {n : Nat} (h : n ≠ 0) : ∃ h' : (dn n).length - 1 < (dn n).length, (dn n)[(dn n).length - 1] ≠ 0 := by
  have hl : 0 < (dn n).length := by
    rcases Nat.eq_zero_or_pos (dn n).length with c | c
    · rw [dn_empty] at c; exact absurd c h
    · exact c
  refine ⟨by omega, ?_⟩
  intro hz
  have h1 := dn_len_lt h
  have h2 := take_lt (dn_dg n) ((dn n).length - 1) (by omega)
  have h3 := WH.take_dv (l := dn n) ((dn n).length - 1)
  rw [show (dn n).length - 1 + 1 = (dn n).length by omega, List.take_of_length_le (Nat.le_refl _), dv_dn, getD_lt (by omega), hz, Nat.mul_zero, Nat.add_zero] at h3
  omega
/-- The shift that lays the highest bit at the top. -/
theorem top_facts {n k t s r : Nat} (hs : s ≤ 63) (hn : n = r + 18446744073709551616 ^ k * t) (hr : r < 18446744073709551616 ^ k) (h1 : 9223372036854775808 ≤ t * 2 ^ s) (h2 : t * 2 ^ s < 18446744073709551616) : 9223372036854775808 * 18446744073709551616 ^ k ≤ n * 2 ^ s ∧ n * 2 ^ s < 18446744073709551616 ^ (k + 1) := by
  have e : t * 2 ^ s + 2 ^ s ≤ 18446744073709551616 := by
    have hlt : t < 2 ^ (64 - s) := by
      refine Nat.lt_of_mul_lt_mul_right (a := 2 ^ s) ?_
      rw [p64 hs]; exact h2
    have := Nat.mul_le_mul_right (2 ^ s) (show t + 1 ≤ 2 ^ (64 - s) by omega)
    rw [p64 hs, Nat.add_mul, Nat.one_mul] at this
    exact this
  rw [Nat.pow_succ]
  generalize 18446744073709551616 ^ k = P at *
  have hp : 0 < 2 ^ s := Nat.pow_pos (by decide)
  have en : n * 2 ^ s = r * 2 ^ s + P * (t * 2 ^ s) := by rw [hn, Nat.add_mul, Nat.mul_assoc]
  constructor
  · have : P * 9223372036854775808 ≤ P * (t * 2 ^ s) := Nat.mul_le_mul_left _ h1
    rw [Nat.mul_comm] at this
    omega
  · have h3 : r * 2 ^ s < P * 2 ^ s := Nat.mul_lt_mul_of_pos_right hr hp
    have h4 : P * (t * 2 ^ s + 2 ^ s) ≤ P * 18446744073709551616 := Nat.mul_le_mul_left _ e
    rw [Nat.mul_add] at h4
    omega
theorem len_of {V k : Nat} (h1 : 18446744073709551616 ^ k ≤ V) (h2 : V < 18446744073709551616 ^ (k + 1)) : (dn V).length = k + 1 := by
  have l1 := dn_len_le h2
  have l2 := dv_lt (dn_dg V)
  rw [dv_dn] at l2
  rcases Nat.lt_or_ge k (dn V).length with c | c
  · omega
  · have := pw_mono c
    omega
theorem last_dn {n k : Nat} (hk : (dn n).length = k + 1) : ∃ h : k < (dn n).length, ∃ r, n = r + 18446744073709551616 ^ k * (dn n)[k] ∧ r < 18446744073709551616 ^ k := by
  refine ⟨by omega, dv ((dn n).take k), ?_, take_lt (dn_dg n) k (by omega)⟩
  have := WH.take_dv (l := dn n) k
  rw [List.take_of_length_le (by omega), dv_dn, getD_lt (by omega)] at this
  exact this
theorem div_start {m n s na k : Nat} {L0 : List Nat} (hm : m < 18446744073709551616 ^ na) (hs : s ≤ 63) (hV : 9223372036854775808 * 18446744073709551616 ^ k ≤ n * 2 ^ s) (hk : k + 1 ≤ na) (hd : Dg L0) (hL : dv L0 = m * 2 ^ s) : DivI (m * 2 ^ s) (n * 2 ^ s) L0 (List.replicate (na - k) 0) (na - k) :=
  ⟨hd, dg_replicate _, by rw [WH.dv_replicate, hL]; rfl, by rw [hL]; exact start_less hm hs hV hk, fun j hj _ => by simp⟩
/-- The guess, of the digits that lie there. -/
theorem guess_dig {L0 V j k g hi lo vt : Nat} {L q : List Nat} (h : DivI L0 V L q (j + 1)) (hl : j + (k + 2) ≤ L.length) (hV : (dn V).length = k + 1) (h1 : L[j + (k + 1)]? = some hi) (h2 : L[j + k]? = some lo) (h3 : (dn V)[k]? = some vt) (hg : g = if vt ≤ hi then 18446744073709551615 else (hi * 18446744073709551616 + lo) / vt) : ∀ p, p = dv ((L.drop j).take (k + 2)) → p < V * 18446744073709551616 → p < (g + 1) * V := by
  intro p hp hpv
  obtain ⟨r1, e1, b1⟩ := piece_high (l := L.drop j) (m := k) (h.dl.drop j) (by simp; omega)
  obtain ⟨r2, e2⟩ := one_high (l := dn V) hV
  rw [dv_dn] at e2
  have d1 : (L.drop j)[k]'(by simp; omega) = lo := by
    rw [List.getElem_drop]; exact (List.getElem?_eq_some_iff.1 h2).2
  have d2 : (L.drop j)[k + 1]'(by simp; omega) = hi := by
    rw [List.getElem_drop]; exact (List.getElem?_eq_some_iff.1 h1).2
  have d3 : (dn V)[k]'(by omega) = vt := (List.getElem?_eq_some_iff.1 h3).2
  rw [d1, d2] at e1
  rw [d3] at e2
  exact guess_ok (hp.trans e1) b1 e2 hpv hg
end Go.Proofs.YtecmkjefoppbiaaDoor
