/-
  mercatorref2.digits.
-/
import Derived.Test.YtfahmaapodoaaaaGreatDoorQGqE
namespace Go.Proofs.YtfahmaapodoaaaaGreatDoor
open Go.RowKit GQ

theorem byte_u8 (r : Nat) (hr : r < 10) : ((UInt8.ofNat (48 + r)).toNat : Int) = 48 + (r : Int) := by
  have : (UInt8.ofNat (48 + r)).toNat = 48 + r := by rw [UInt8.toNat_ofNat']; omega
  omega
theorem conv1 (w : World) (c : Nat) (r : Nat) (hr : r < 10) : (convert 61 9 (.slice (some ⟨w.heap.size, 0, none⟩) 1 c)).run Tryz.prog (w.alloc (.cells #[.int .u8 (48 + (r : Int))] 5)) = .ok (.string ⟨[UInt8.ofNat (48 + r)].toArray⟩) (w.alloc (.cells #[.int .u8 (48 + (r : Int))] 5)) := by
  refine run_convert_bytes_back (P := Tryz.prog) _ 61 9 5 ⟨w.heap.size, 0, none⟩ c [UInt8.ofNat (48 + r)] Tryz.underlying61 Tryz.underlying5 Tryz.underlying9 ?_
  intro j hj
  obtain rfl : j = 0 := by simpa using hj
  rw [List.getElem_cons_zero, byte_u8 r hr]
  exact (At.new1 w _ _).c1
set_option maxHeartbeats 1000000 in
theorem digits_any (n k : Nat) (hn : n < 10000000) (hk : k ≤ 7) (w : World) : Calls Tryz.prog 24 #[.int .i64 n, .int .i64 k] w fun e w' => e = .returned (.string ⟨(dgs n k).toArray⟩) ∧ Gr w w' := by
  go_enter Tryz.func24, Tryz.ntmps24
  go_wp2
  go_loopw [0, 5, 6] (fun v t u wr => ∃ (i : Nat) (q : Int), i ≤ k ∧ Hid (q = ((n / 10 ^ i : Nat) : Int)) ∧ v = .int .i64 q ∧ t = .string ⟨(dgs n i).toArray⟩ ∧ u = .int .i64 i ∧ Gr w wr) (fun _ _ u _ => k - (intOf u).toNat)
  case atStart => exact ⟨0, n, Nat.zero_le _, by simp [Hid], rfl, rfl, rfl, Gr.refl _⟩
  case round =>
    obtain ⟨i, q, hik, HQ, rfl, rfl, rfl, hB⟩ := hrel
    by_cases hi : i = k
    · have hi' : ¬ (i : Int) < (k : Int) := by omega
      subst hi
      go_wp2
      go_ret
      exact ⟨rfl, hB⟩
    · have hi' : (i : Int) < (k : Int) := by omega
      have hq : 0 ≤ q ∧ q < 10000000 := by
        have h1 := HQ.out
        have h2 : n / 10 ^ i ≤ n := Nat.div_le_self _ _
        generalize n / 10 ^ i = t at h1 h2
        omega
      obtain ⟨r, hr⟩ : ∃ r : Nat, (r : Int) = q.tmod 10 := ⟨(q.tmod 10).toNat, by rw [Int.tmod_eq_emod_of_nonneg hq.1]; omega⟩
      have hr10 : r < 10 := by rw [Int.tmod_eq_emod_of_nonneg hq.1] at hr; omega
      have er : n / 10 ^ i % 10 = r := by
        have h1 := HQ.out
        rw [Int.tmod_eq_emod_of_nonneg hq.1] at hr
        generalize n / 10 ^ i = t at h1
        omega
      obtain ⟨q', hq'⟩ : ∃ q' : Int, q.tdiv 10 = q' := ⟨_, rfl⟩
      have HQ' : Hid (q' = ((n / 10 ^ (i + 1) : Nat) : Int)) := by
        show q' = _
        have h1 := HQ.out
        rw [← hq', Int.tdiv_eq_ediv_of_nonneg hq.1, Nat.pow_succ, ← Nat.div_div_eq_div_mul]
        generalize n / 10 ^ i = t at h1
        omega
      have w1 : IntKind.i64.wrap q' = q' := by rw [← hq', Int.tdiv_eq_ediv_of_nonneg hq.1]; exact wrq (by omega) (by omega)
      have w2 : IntKind.u8.wrap (48 + (r : Int)) = 48 + r := by simp [IntKind.wrap, IntKind.signed, IntKind.bits]; omega
      have w3 : IntKind.i64.wrap (48 + (r : Int)) = 48 + r := wrq (by omega) (by omega)
      have w4 : IntKind.i64.wrap ((i : Int) + 1) = i + 1 := wrq (by omega) (by omega)
      have hr' := hr.symm
      have hconv := fun c => conv1 wr c r hr10
      have hadd : ∀ W : World, (Op.stringOp .add ⟨[UInt8.ofNat (48 + r)].toArray⟩ ⟨(dgs n i).toArray⟩).run Tryz.prog W = .ok (.string ⟨(dgs n (i + 1)).toArray⟩) W := fun W => by
        rw [add_s _ _ (by simp) (by rw [dgs_length]; omega), dgs_front, er]
        rfl
      generalize ByteArray.mk [UInt8.ofNat (48 + r)].toArray = C at hconv hadd
      obtain ⟨D, hD⟩ : ∃ D, ByteArray.mk (dgs n i).toArray = D := ⟨_, rfl⟩
      obtain ⟨E, hE⟩ : ∃ E, ByteArray.mk (dgs n (i + 1)).toArray = E := ⟨_, rfl⟩
      rw [hD, hE] at hadd
      rw [hD]
      have HE := hidb hE
      have HI := hidb hi
      clear hr hr10 er hq hD hE hi
      go_wp2_with fail
      go_roundw
      case rel => exact ⟨i + 1, q', by have := HI.out; omega, HQ', rfl, by rw [HE.out], by simp, hB.alloc _⟩
      case measure => have := HI.out; simp [intOf]; omega
end Go.Proofs.YtfahmaapodoaaaaGreatDoor
