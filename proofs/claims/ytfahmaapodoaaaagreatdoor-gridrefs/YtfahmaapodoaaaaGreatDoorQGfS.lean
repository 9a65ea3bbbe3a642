/-
  mercatorref2: digitsAt, byteAt.
-/
import Derived.Test.YtfahmaapodoaaaaGreatDoorQGfN
import Derived.Test.YtfahmaapodoaaaaGreatDoorQGqB
namespace Go.Proofs.YtfahmaapodoaaaaGreatDoor
open Go.RowKit GQ

theorem dv_bd {s : ByteArray} {f j : Nat} (hj : j ≤ 7) (h : ∀ i, i < j → dig (bt s (f + i))) : dv s f j < 10000000 :=
  Nat.lt_of_lt_of_le (dv_lt j h) (Nat.pow_le_pow_right (by decide) hj)
set_option maxHeartbeats 1000000 in
theorem digitsAt_any (s : ByteArray) (f k : Nat) (_hs : s.size ≤ 200) (hk : k ≤ 7) (hf : f ≤ 18) (n a : Int)
    (hr : ((∀ j, j < k → dig (bt s (f + j))) ∧ n = (dv s f k : Int) ∧ a = -1) ∨ (∃ m, m < k ∧ (∀ j, j < m → dig (bt s (f + j))) ∧ ¬ dig (bt s (f + m)) ∧ n = 0 ∧ a = ((f + m : Nat) : Int))) (w : World) :
    Calls Tryz.prog 27 #[.string s, .int .i64 (f : Int), .int .i64 (k : Int)] w fun e w' => e = .returned (.tuple #[.int .i64 n, .int .i64 a]) ∧ w' = w := by
  have HR := hidb hr
  have e0 : IntKind.i64.wrap ((f : Int) + (k : Int)) = f + k := wrq (by omega) (by omega)
  clear hr
  go_enter Tryz.func27, Tryz.ntmps27
  go_wp2
  go_loop [8, 9] (fun v t => ∃ (j : Nat) (q : Int), j ≤ k ∧ v = .int .i64 q ∧ t = .int .i64 ((f : Int) + (j : Int)) ∧ Hid (q = (dv s f j : Int) ∧ ∀ i, i < j → dig (bt s (f + i)))) (fun _ t => f + k - (intOf t).toNat)
  case atStart => exact ⟨0, 0, Nat.zero_le _, rfl, by simp, rfl, fun i h => absurd h (by omega)⟩
  case round =>
    obtain ⟨j, q, hj, rfl, rfl, HQ⟩ := hrel
    by_cases hjk : j = k
    · subst hjk
      obtain ⟨rfl, rfl⟩ : n = q ∧ a = -1 := by
        rcases HR.out with ⟨-, h1, h2⟩ | ⟨m, hm, -, h1, -⟩
        · exact ⟨by rw [h1, HQ.out.1], h2⟩
        · exact absurd (HQ.out.2 m hm) h1
      clear HR
      go_wp2
      go_ret2
      exact ⟨rfl, rfl⟩
    · have hlt : (f : Int) + (j : Int) < (f : Int) + (k : Int) := by omega
      have e1 : IntKind.i64.wrap ((f : Int) + (j : Int) + 1) = (f : Int) + j + 1 := wrq (by omega) (by omega)
      by_cases hin : f + j < s.size
      · have hix : ∀ W : World, (Instr.index 9 (.string s) (.int .i64 ((f : Int) + (j : Int)))).run Tryz.prog W = .ok (.int .u8 (bt s (f + j) : Int)) W := fun W => by
          rw [run_index_string W 9 _ .i64 ((f : Int) + (j : Int)) Tryz.underlying9, dif_pos ⟨by omega, by omega⟩, bt_in hin]
          congr 3
        have hge : ¬ (s.size : Int) ≤ (f : Int) + (j : Int) := by omega
        obtain ⟨b, hb⟩ : ∃ b, bt s (f + j) = b := ⟨_, rfl⟩
        rw [hb] at hix
        have HB := hidb hb
        by_cases hd : dig b
        · obtain ⟨d1, d2⟩ := hd
          have hq : 0 ≤ q ∧ q < 10000000 := by
            have := dv_bd (f := f) (by omega) HQ.out.2
            have h := HQ.out.1
            omega
          have HN : Hid (q * 10 + ((b : Int) - 48) = (dv s f (j + 1) : Int) ∧ ∀ i, i < j + 1 → dig (bt s (f + i))) := by
            refine ⟨?_, fun i hi => ?_⟩
            · rw [dv, HB.out, HQ.out.1]
              omega
            · by_cases e : i = j
              · rw [e, HB.out]; exact ⟨d1, d2⟩
              · exact HQ.out.2 i (by omega)
          have w1 : IntKind.u8.wrap ((b : Int) - 48) = (b : Int) - 48 := by simp [IntKind.wrap, IntKind.signed, IntKind.bits]; omega
          have w2 : IntKind.i64.wrap (q * 10) = q * 10 := wrq (by omega) (by omega)
          have w3 : IntKind.i64.wrap (q * 10 + ((b : Int) - 48)) = q * 10 + ((b : Int) - 48) := wrq (by omega) (by omega)
          have w4 : IntKind.i64.wrap ((b : Int) - 48) = (b : Int) - 48 := wrq (by omega) (by omega)
          have b1 : ¬ (b : Int) < 48 := by omega
          have b2 : ¬ (57 : Int) < (b : Int) := by omega
          have HJ := hidb hjk
          clear hq hb hjk hin d1 d2
          go_wp2
          go_round
          case rel => exact ⟨j + 1, _, by have := HJ.out; omega, rfl, by simp; omega, HN⟩
          case measure => have := HJ.out; simp [intOf]; omega
        · obtain ⟨rfl, rfl⟩ : n = 0 ∧ a = (f : Int) + (j : Int) := by
            rcases HR.out with ⟨h1, -, -⟩ | ⟨m, hm, h0, h1, h2, h3⟩
            · exact absurd (hb ▸ h1 j (by omega)) hd
            · refine ⟨h2, ?_⟩
              rcases Nat.lt_trichotomy m j with c | c | c
              · exact absurd (HQ.out.2 m c) h1
              · rw [h3, c]; omega
              · exact absurd (hb ▸ h0 j c) hd
          have HD : Hid ((b : Int) < 48 ∨ (57 : Int) < (b : Int)) := by
            unfold dig at hd
            show _ ∨ _
            omega
          clear hd hb hjk hin HR HB
          rcases HD.out with h | h
          · go_wp2
            go_ret2
            exact ⟨rfl, rfl⟩
          · have h' : ¬ (b : Int) < 48 := by omega
            go_wp2
            go_ret2
            exact ⟨rfl, rfl⟩
      · have hge : (s.size : Int) ≤ (f : Int) + (j : Int) := by omega
        have hd : ¬ dig (bt s (f + j)) := fun h => hin (dig_lt h)
        obtain ⟨rfl, rfl⟩ : n = 0 ∧ a = (f : Int) + (j : Int) := by
          rcases HR.out with ⟨h1, -, -⟩ | ⟨m, hm, h0, h1, h2, h3⟩
          · exact absurd (h1 j (by omega)) hd
          · refine ⟨h2, ?_⟩
            rcases Nat.lt_trichotomy m j with c | c | c
            · exact absurd (HQ.out.2 m c) h1
            · rw [h3, c]; omega
            · exact absurd (h0 j c) hd
        clear hd hjk hin HR
        go_wp2
        go_ret2
        exact ⟨rfl, rfl⟩
theorem byteAt_any (s : ByteArray) (i a b : Nat) (hi : i ≤ 18) (_hs : s.size ≤ 200) (ha : ¬ a = 0) (hb : ¬ b = 0) (r : Int) (hr : ((bt s i = a ∨ bt s i = b) ∧ r = -1) ∨ (¬ (bt s i = a ∨ bt s i = b) ∧ r = (i : Int))) (w : World) :
    Calls Tryz.prog 28 #[.string s, .int .i64 (i : Int), .int .u8 (a : Int), .int .u8 (b : Int)] w fun e w' => e = .returned (.int .i64 r) ∧ w' = w := by
  by_cases hin : i < s.size
  · have hix : ∀ W : World, (Instr.index 9 (.string s) (.int .i64 (i : Int))).run Tryz.prog W = .ok (.int .u8 (bt s i : Int)) W := fun W => by
      rw [run_index_string W 9 _ .i64 (i : Int) Tryz.underlying9, dif_pos ⟨by omega, by omega⟩, bt_in hin]
      congr 3
    have hlt : (i : Int) < (s.size : Int) := by omega
    generalize bt s i = c at *
    have HR := hidb hr
    clear hr hin
    by_cases c1 : c = a
    · have hc : (c : Int) = (a : Int) := by omega
      obtain rfl : r = -1 := by
        rcases HR.out with ⟨-, h⟩ | ⟨h, -⟩
        · exact h
        · exact absurd (Or.inl c1) h
      clear c1 HR
      go_enter Tryz.func28, Tryz.ntmps28
      go_wp2
      go_ret
      exact ⟨rfl, rfl⟩
    · have hc : ¬ (c : Int) = (a : Int) := by omega
      by_cases c2 : c = b
      · have hc2 : (c : Int) = (b : Int) := by omega
        obtain rfl : r = -1 := by
          rcases HR.out with ⟨-, h⟩ | ⟨h, -⟩
          · exact h
          · exact absurd (Or.inr c2) h
        clear c1 c2 HR
        go_enter Tryz.func28, Tryz.ntmps28
        go_wp2
        go_ret
        exact ⟨rfl, rfl⟩
      · have hc2 : ¬ (c : Int) = (b : Int) := by omega
        obtain rfl : r = (i : Int) := by
          rcases HR.out with ⟨h, -⟩ | ⟨-, h⟩
          · exact absurd h (fun k => k.elim c1 c2)
          · exact h
        have hcb : ((c : Int) == (a : Int)) = false := by simpa using hc
        have hcb2 : ((c : Int) == (b : Int)) = false := by simpa using hc2
        clear c1 c2 HR hc hc2
        go_enter Tryz.func28, Tryz.ntmps28
        go_wp2
        go_ret
        exact ⟨rfl, rfl⟩
  · have hlt : ¬ (i : Int) < (s.size : Int) := by omega
    rw [bt_out hin] at hr
    obtain rfl : r = (i : Int) := by
      rcases hr with ⟨h, -⟩ | ⟨-, h⟩
      · exact absurd h (fun k => k.elim (fun q => ha q.symm) (fun q => hb q.symm))
      · exact h
    clear hr hin
    go_enter Tryz.func28, Tryz.ntmps28
    go_wp2
    go_ret
    exact ⟨rfl, rfl⟩
end Go.Proofs.YtfahmaapodoaaaaGreatDoor
