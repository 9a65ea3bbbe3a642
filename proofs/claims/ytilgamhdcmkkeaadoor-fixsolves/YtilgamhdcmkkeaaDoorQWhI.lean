/-
  whole.shifted, whole.lowered, whole.guess.
-/
import Derived.Test.YtilgamhdcmkkeaaDoorQWhH
import Derived.Deep.RegionLaw
namespace Go.Proofs.YtilgamhdcmkkeaaDoor
open Go.RowKit WH

set_option maxRecDepth 4000 in
set_option maxHeartbeats 4000000 in
/-- The row's block is new: all that it holds is told. -/
theorem wshift_any {w : World} {u : Value} {a : List Nat} {s : Nat} (hda : Dg a) (la : a.length ≤ 400) (hs : s ≤ 63) (ha : Pt w u a) : Calls Tryd.prog 63 #[u, .int .i64 (s : Int)] w fun e w' => ∃ o, e = .returned (.slice (some ⟨w.heap.size, 0, none⟩) (a.length + 1) (a.length + 1)) ∧ o.length = a.length + 1 ∧ Dg o ∧ dv o = dv a * 2 ^ s ∧ At w' w.heap.size (us o) ∧ Gr w w' := by
  obtain ⟨ad, ba, ca, rfl, ra⟩ := ha.rd0
  have RA := hidb ra
  have HA := hidb hda
  obtain ⟨i0, hi, hz0, hz1, hz2⟩ := info_parts infoU
  clear ha ra hda
  obtain ⟨p, hp⟩ : ∃ p, p = a.length := ⟨_, rfl⟩
  rw [← hp] at la
  rw [← hp]
  have HP := hidb hp
  have IA := hidb RA.out.ix
  rw [← hp] at IA
  clear hp
  have S3 : (s : Int) ≤ 63 := by omega
  have HS := hidb hs
  go_enter Tryd.func63, Tryd.ntmps63
  go_wp2_with (refine wpList_make_full _ rfl _ _ 66 rfl w.heap.size 101 i0 (.int .u64 0) 1 undU hi hz0 hz1 .i64 .i64 _ _ (p + 1) rfl rfl (by omega) (by omega) (by rw [hz2]; omega) (by unfold maxLen; omega) (Nat.le_refl _) ?_)
  intro w1 hown hgrow
  have HG : Hid (Onl w.heap.size w w1) := Onl.grown hgrow
  have HK : Hid (At w1 w.heap.size (us (List.replicate (p + 1) 0))) := by
    rw [made_us] at hown
    exact (own_blk hown).at
  clear hown hgrow
  have IX : Hid (∀ k : Nat, k < p + 1 → ∀ w', (Instr.indexAt 66 (.slice (some ⟨w.heap.size, 0, none⟩) (p + 1) (p + 1)) (.int .i64 k)).run Tryd.prog w' = .ok (.pointer (some ⟨w.heap.size, k, none⟩)) w') := fun k hk w' => uindex0 _ _ _ k hk w'
  obtain ⟨sv, hsv⟩ : ∃ sv, sv = Value.slice (some ⟨w.heap.size, 0, none⟩) (p + 1) (p + 1) := ⟨_, rfl⟩
  rw [← hsv] at IX ⊢
  have SV := hidb hsv
  clear hsv
  go_wp2
  go_loopw [14] (fun t wr => ∃ (i : Nat) (o : List Nat), i ≤ p ∧ t = .int .i64 (i : Int) ∧ Hid (ShI a o s i) ∧ Hid (At wr w.heap.size (us o)) ∧ Hid (Onl w.heap.size w wr)) (fun t _ => p - (intOf t).toNat)
  case atStart => exact ⟨0, List.replicate (p + 1) 0, Nat.zero_le _, rfl, by rw [HP.out]; exact ShI.start a s, HK.out, HG.out⟩
  case round =>
    obtain ⟨i, o, hip, rfl, HM, HO, HW⟩ := hrel
    clear HK HG
    by_cases h1 : i < p
    · have h1a : i < a.length := by rw [← HP.out]; exact h1
      have cella := RA.out.cell h1a HW.out
      have xa := HA.out.get h1a
      have ixa := IA.out i h1
      have hj : i < o.length := by rw [HM.out.len, ← HP.out]; omega
      have hj1 : i + 1 < o.length := by rw [HM.out.len, ← HP.out]; omega
      obtain ⟨cello, fro⟩ := HO.out.ucell hj
      obtain ⟨cello1, fro1⟩ := HO.out.ucell hj1
      have ixo := IX.out i (by omega)
      have ixo1 : ∀ w', (Instr.indexAt 66 sv (.int .i64 ((i : Int) + 1))).run Tryd.prog w' = .ok (.pointer (some ⟨w.heap.size, i + 1, none⟩)) w' := by
        intro w'
        have := IX.out (i + 1) (by omega) w'
        rw [Int.natCast_add] at this; exact this
      have ST := hidb (HM.out.step HS.out h1a xa hj)
      obtain ⟨or1, or2⟩ := up_or (x := a[i]) HS.out (HM.out.top hj)
      have zl := HM.out.dg.get hj
      generalize a[i] = x at *
      generalize o[i] = z at *
      have xm : x * 2 ^ s % 18446744073709551616 < 18446744073709551616 := Nat.mod_lt _ (by decide)
      have hor : bits .or .u64 (z : Int) (IntKind.u64.wrap ((x : Int) * 2 ^ s)) = ((z + x * 2 ^ s % 18446744073709551616 : Nat) : Int) := by
        rw [wrap_powm, bits_or_u64_nat _ _ zl xm, or1]
      have hsh : (x : Int) / 2 ^ (64 - s) = ((x / 2 ^ (64 - s) : Nat) : Int) := div_pow
      obtain ⟨f, hf⟩ : ∃ f, f = z + x * 2 ^ s % 18446744073709551616 := ⟨_, rfl⟩
      obtain ⟨g, hg⟩ : ∃ g, g = x / 2 ^ (64 - s) := ⟨_, rfl⟩
      rw [← hf] at hor
      rw [← hg] at hsh
      rw [← hf, ← hg] at ST
      have HF := hidb hf
      have HG2 := hidb hg
      clear hf hg or1 or2 xm HM
      go_upto_region 5 with fail
      go_region_law (fail)
      go_wp2
      go_roundw
      case rel => exact ⟨i + 1, (o.set i f).set (i + 1) g, by omega, by go_num, ST.out, (HO.out.uput i f).uput (i + 1) g, (HW.out.drew.set i _).set (i + 1) _⟩
      case measure => simp [intOf]; omega
    · have hip2 : i = a.length := by rw [← HP.out]; omega
      have HE : Hid (dv o = dv a * 2 ^ s) := ShI.done (by rw [← hip2]; exact HM.out)
      have ml : Hid (o.length = p + 1) := by rw [HP.out]; exact HM.out.len
      clear hip2
      go_wp2
      go_ret
      exact ⟨o, by rw [SV.out]; rfl, ml.out, HM.out.dg, HE.out, HO.out, Onl.of (Below.refl _ _) HW.out (Nat.le_refl _)⟩
set_option maxRecDepth 4000 in
set_option maxHeartbeats 4000000 in
theorem wlower_any {w : World} {u : Value} {a : List Nat} {s : Nat} (hda : Dg a) (la : a.length ≤ 500) (hs : s ≤ 63) (ha : Pt w u a) : Calls Tryd.prog 67 #[u, .int .i64 (s : Int)] w fun e w' => ∃ r, e = .returned r ∧ Pt w' r (dn (dv a / 2 ^ s)) ∧ Gr w w' := by
  obtain ⟨ad, ba, ca, rfl, ra⟩ := ha.rd0
  have RA := hidb ra
  have HA := hidb hda
  obtain ⟨i0, hi, hz0, hz1, hz2⟩ := info_parts infoU
  clear ha ra hda
  obtain ⟨p, hp⟩ : ∃ p, p = a.length := ⟨_, rfl⟩
  rw [← hp] at la
  rw [← hp]
  have HP := hidb hp
  have IA := hidb RA.out.ix
  rw [← hp] at IA
  clear hp
  have S3 : (s : Int) ≤ 63 := by omega
  have HS := hidb hs
  go_enter Tryd.func67, Tryd.ntmps67
  go_wp2_with (refine wpList_make_full _ rfl _ _ 66 rfl w.heap.size 101 i0 (.int .u64 0) 1 undU hi hz0 hz1 .i64 .i64 _ _ p rfl rfl rfl rfl (by rw [hz2]; omega) (by unfold maxLen; omega) (Nat.le_refl _) ?_)
  intro w1 hown hgrow
  have HG : Hid (Onl w.heap.size w w1) := Onl.grown hgrow
  have HK : Hid (At w1 w.heap.size (us (List.replicate p 0))) := by
    rw [made_us] at hown
    exact (own_blk hown).at
  clear hown hgrow
  have IX : Hid (∀ k : Nat, k < p → ∀ w', (Instr.indexAt 66 (.slice (some ⟨w.heap.size, 0, none⟩) p p) (.int .i64 k)).run Tryd.prog w' = .ok (.pointer (some ⟨w.heap.size, k, none⟩)) w') := fun k hk w' => uindex0 _ _ _ k hk w'
  obtain ⟨sv, hsv⟩ : ∃ sv, sv = Value.slice (some ⟨w.heap.size, 0, none⟩) p p := ⟨_, rfl⟩
  rw [← hsv] at IX ⊢
  have SV := hidb hsv
  clear hsv
  go_wp2
  go_loopw [13] (fun t wr => ∃ (i : Nat) (o : List Nat), i ≤ p ∧ t = .int .i64 (i : Int) ∧ Hid (LoI a o s i) ∧ Hid (At wr w.heap.size (us o)) ∧ Hid (Onl w.heap.size w wr)) (fun t _ => p - (intOf t).toNat)
  case atStart => exact ⟨0, List.replicate p 0, Nat.zero_le _, rfl, by rw [HP.out]; exact LoI.start a s, HK.out, HG.out⟩
  case round =>
    obtain ⟨i, o, hip, rfl, HM, HO, HW⟩ := hrel
    clear HK HG
    by_cases h1 : i < p
    · have h1a : i < a.length := by rw [← HP.out]; exact h1
      have cella := RA.out.cell h1a HW.out
      have xa := HA.out.get h1a
      have ixa := IA.out i h1
      have hj : i < o.length := by rw [HM.out.len, ← HP.out]; omega
      obtain ⟨cello, fro⟩ := HO.out.ucell hj
      have ixo := IX.out i (by omega)
      rcases Nat.eq_zero_or_pos i with h0 | h0
      · subst h0
        simp only [show ((0 : Nat) : Int) = 0 from rfl] at ixa ixo
        have ST := hidb (HM.out.first HS.out h1a xa hj)
        generalize a[0] = x at *
        have hsh : (x : Int) / 2 ^ s = ((x / 2 ^ s : Nat) : Int) := div_pow
        obtain ⟨g, hg⟩ : ∃ g, g = x / 2 ^ s := ⟨_, rfl⟩
        rw [← hg] at hsh ST
        have HG2 := hidb hg
        clear hg HM
        go_wp2
        go_roundw
        case rel => exact ⟨1, o.set 0 g, by omega, by go_num, ST.out, HO.out.uput 0 g, HW.out.set 0 _⟩
        case measure => simp [intOf]; omega
      · obtain ⟨j, rfl⟩ : ∃ j, i = j + 1 := ⟨i - 1, by omega⟩
        have hj0 : j < o.length := by omega
        obtain ⟨cellj, frj⟩ := HO.out.ucell hj0
        have ixj := IX.out j (by omega)
        have ej : ((j + 1 : Nat) : Int) - 1 = (j : Int) := by omega
        have pj : (0 : Int) < ((j + 1 : Nat) : Int) := by omega
        push_cast at ixa ixo
        have hwj : IntKind.i64.wrap (j : Int) = (j : Int) := by rw [IntKind.wrap_i64]; omega
        have hws : IntKind.i64.wrap (64 - (s : Int)) = ((64 - s : Nat) : Int) := by rw [IntKind.wrap_i64]; omega
        have ST := hidb (HM.out.step HS.out h1a xa hj)
        obtain ⟨or1, or2⟩ := dn_or (x := a[j + 1]) HS.out (HM.out.top j hj0 rfl)
        have zl := HM.out.dg.get hj0
        generalize a[j + 1] = x at *
        generalize o[j] = z at *
        have xm : x * 2 ^ (64 - s) % 18446744073709551616 < 18446744073709551616 := Nat.mod_lt _ (by decide)
        have hor : bits .or .u64 (z : Int) (IntKind.u64.wrap ((x : Int) * 2 ^ (64 - s))) = ((z + x * 2 ^ (64 - s) % 18446744073709551616 : Nat) : Int) := by
          rw [wrap_powm, bits_or_u64_nat _ _ zl xm, or1]
        have hsh : (x : Int) / 2 ^ s = ((x / 2 ^ s : Nat) : Int) := div_pow
        obtain ⟨f, hf⟩ : ∃ f, f = z + x * 2 ^ (64 - s) % 18446744073709551616 := ⟨_, rfl⟩
        obtain ⟨g, hg⟩ : ∃ g, g = x / 2 ^ s := ⟨_, rfl⟩
        rw [← hf] at hor
        rw [← hg] at hsh
        rw [← hf, ← hg] at ST
        have HF := hidb hf
        have HG2 := hidb hg
        clear hf hg or1 or2 xm HM
        go_upto_region 7 with fail
        go_region_law (fail)
        go_wp2
        go_roundw
        case rel => exact ⟨j + 1 + 1, (o.set (j + 1) g).set j f, by omega, by go_num, ST.out, (HO.out.uput (j + 1) g).uput j f, ((HW.out.set (j + 1) _).drew.set j _)⟩
        case measure => simp [intOf]; omega
    · have hip2 : i = a.length := by rw [← HP.out]; omega
      have HE : Hid (dv o = dv a / 2 ^ s) := LoI.done (by rw [← hip2]; exact HM.out)
      have ml : o.length = p := by rw [HP.out]; exact HM.out.len
      have HPt : Hid (Pt wr sv o) := .inr ⟨w.heap.size, p, by rw [ml]; exact SV.out, by omega, by unfold maxLen; omega, HO.out.urow⟩
      clear hip2
      go_wp2_with fail
      refine (wtrim_any HM.out.dg HPt.out).mono ?_
      rintro e w4 ⟨r, rfl, hr, rfl⟩
      rw [HE.out] at hr
      go_wp2
      go_ret
      exact ⟨_, rfl, hr, Onl.of (Below.refl _ _) HW.out (Nat.le_refl _)⟩
theorem wguess_any (hi lo y : Nat) (_h1 : hi < 18446744073709551616) (h2 : lo < 18446744073709551616) (h3 : y < 18446744073709551616) (w : World) : Calls Tryd.prog 64 #[.int .u64 (hi : Int), .int .u64 (lo : Int), .int .u64 (y : Int)] w fun e w' => e = .returned (.int .u64 ((if y ≤ hi then 18446744073709551615 else (hi * 18446744073709551616 + lo) / y : Nat) : Int)) ∧ Gr w w' := by
  by_cases c : y ≤ hi
  · rw [if_pos c]
    go_enter Tryd.func64, Tryd.ntmps64
    go_wp2
    go_ret
    exact ⟨rfl, Gr.refl _⟩
  · rw [if_neg c]
    obtain ⟨q, hq⟩ : ∃ q, (hi * 18446744073709551616 + lo) / y = q := ⟨_, rfl⟩
    obtain ⟨r, hr⟩ : ∃ r, (hi * 18446744073709551616 + lo) % y = r := ⟨_, rfl⟩
    have HD := hidb (fun w => div64 hi lo y q r hq hr h2 (by omega) h3 w)
    rw [hq]
    clear hq hr
    go_enter Tryd.func64, Tryd.ntmps64
    go_wp2_with fail
    refine (HD.out _).mono ?_
    rintro e w1 ⟨rfl, hB⟩
    go_wp2
    go_ret
    exact ⟨rfl, hB⟩
end Go.Proofs.YtilgamhdcmkkeaaDoor
