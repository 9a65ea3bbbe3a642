/-
  field.Fine: the walk.
-/
import Derived.Test.YtphpfongdbidoaaDoorQFsE
namespace Go.Proofs.YtphpfongdbidoaaDoor
open Go.RowKit

set_option maxRecDepth 4000 in
set_option maxHeartbeats 8000000 in
theorem fine_ok (g : Nat → Addr) {m n by' b o cap : Nat} {l : List Int} (w : World) (h : Rs w b o cap l) (ok : Ok l m n) (hl : Laid w g) (hc : scode m n l by' = 0) (hb1 : 1 ≤ by') (hm : m * by' ≤ 128) (hn : n * by' ≤ 128) : Calls Tryd.prog 19 #[raV m n (.slice (some ⟨b, o, none⟩) l.length cap), .int .i64 (by' : Int)] w fun e w' => ∃ B K, e = .returned (.tuple #[raV ((m * by' : Nat) : Int) ((n * by' : Nat) : Int) (.slice (some ⟨B, 0, none⟩) K K), .nilIface]) ∧ K = (m * by') * (n * by') ∧ At w' B (ir ((List.range K).map fun j => gl l (fiC m by' j))) ∧ w.heap.size ≤ B ∧ Gr w w' := by
  have ll := ok.len_le
  have C1 := hidb (fun w1 (hB : Gr w w1) => scaled_any g (W := m) (H := n) by' w1 (h.isl.below hB.out) (by omega) (hl.below hB.out))
  rw [hc, show evc g 0 = .nilIface from rfl] at C1
  have G0 := hidb (((Gr.refl w).alloc (.cells #[.int .i64 m, .int .i64 n, .slice (some ⟨b, o, none⟩) l.length cap] 27)).alloc (.cells #[.int .i64 0, .int .i64 0, .slice none 0 0] 27))
  have A0 := hidb (At.nx3 (W := w) (.cells #[.int .i64 m, .int .i64 n, .slice (some ⟨b, o, none⟩) l.length cap] 27) (.int .i64 0) (.int .i64 0) (.slice none 0 0) 27)
  have B0 := hidb ((At.new3 w (.int .i64 m) (.int .i64 n) (.slice (some ⟨b, o, none⟩) l.length cap) 27).alloc (.cells #[.int .i64 0, .int .i64 0, .slice none 0 0] 27))
  have HRs := hidb h
  have HF := hidb (fun j hj => fi_at (j := j) ok hb1 hj)
  have pl : (m * by') * (n * by') ≤ 128 * 128 := Nat.mul_le_mul hm hn
  have pp : 1 * 1 ≤ m * by' := Nat.mul_le_mul ok.m1 hb1
  have pq : 1 * 1 ≤ n * by' := Nat.mul_le_mul ok.n1 hb1
  obtain ⟨P, hP⟩ : ∃ P, P = m * by' := ⟨_, rfl⟩
  obtain ⟨Q, hQ⟩ : ∃ P, P = n * by' := ⟨_, rfl⟩
  obtain ⟨K, hK⟩ : ∃ K, K = P * Q := ⟨_, rfl⟩
  have HFi := hidb (fun j => show fiC m by' j = j / P / by' * m + j % P / by' by unfold fiC; rw [hP])
  rw [← hP, ← hQ] at pl HF ⊢
  rw [← hK] at pl HF ⊢
  rw [← hP] at hm pp
  rw [← hQ] at hn pq
  have e1 : IntKind.i64.wrap ((m : Int) * (by' : Int)) = (P : Int) := by rw [← Int.natCast_mul, ← hP]; exact wrap_in (by omega) (by omega)
  have e2 : IntKind.i64.wrap ((n : Int) * (by' : Int)) = (Q : Int) := by rw [← Int.natCast_mul, ← hQ]; exact wrap_in (by omega) (by omega)
  have c1 : ¬ (128 : Int) < (P : Int) := by omega
  have c2 : ¬ (128 : Int) < (Q : Int) := by omega
  have C4 := hidb (fun w => blank_any (P : Int) (Q : Int) K (by rw [hK]; exact Int.natCast_mul _ _) (by omega) w)
  have hby : by' ≤ 128 := by
    have h3 : 1 * by' ≤ m * by' := Nat.mul_le_mul_right _ ok.m1
    omega
  have HB := hidb (show 1 ≤ m ∧ m ≤ 128 ∧ 1 ≤ n ∧ n ≤ 128 ∧ 1 ≤ by' ∧ by' ≤ 128 ∧ 1 ≤ P ∧ P ≤ 128 ∧ K ≤ 16384 ∧ l.length ≤ 16384 from ⟨ok.m1, ok.m2, ok.n1, ok.n2, hb1, hby, by omega, by omega, by omega, ll⟩)
  obtain ⟨bI, hbI⟩ : ∃ q : Int, q = (by' : Int) := ⟨_, rfl⟩
  rw [← hbI] at C1 e1 e2 ⊢
  have HbI := hidb hbI
  obtain ⟨f, hf⟩ : ∃ f : Nat → Int, f = fun j => gl l (fiC m by' j) := ⟨_, rfl⟩
  have Hf := hidb (fun j => show f j = gl l (fiC m by' j) by rw [hf])
  rw [← hf]
  have HZ := hidb (fill_zero f K)
  have HE := hidb (fill_end f K)
  clear h ok hl hc hP hQ hK hm hn hb1 pl pp pq ll hby hbI hf
  go_enter Tryd.func19, Tryd.ntmps19
  go_wp2_with fail
  refine (C1.out _ G0.out).mono ?_
  rintro e w1 ⟨rfl, hB⟩
  replace G0 := hidb (Gr.step G0.out hB.out)
  replace A0 := hidb (At.below hB.out A0.out)
  replace B0 := hidb (At.below hB.out B0.out)
  clear hB C1
  obtain ⟨b0, b1, b2⟩ := B0.out.c3
  go_wp2_with fail
  refine (C4.out _).mono ?_
  rintro e w3 ⟨B, rfl, hAB, hPB, hB⟩
  have I0 : Hid (RaF w (w3.alloc (.cells #[.int .i64 P, .int .i64 Q, .slice (some ⟨B, 0, none⟩) K K] 27)) w3.heap.size B [.int .i64 m, .int .i64 n, .slice (some ⟨b, o, none⟩) l.length cap] [.int .i64 P, .int .i64 Q, .slice (some ⟨B, 0, none⟩) K K] (fill f K 0)) := by
    have hb := At.lt A0.out
    refine ⟨(At.below hB.out B0.out).alloc _, (At.below hB.out A0.out).alloc _, At.new3 _ _ _ _ _, ?_, hAB.lt, by omega, (Gr.step G0.out hB.out).alloc _⟩
    rw [HZ.out]
    exact hAB.alloc _
  clear A0 B0 hAB hPB hB b0 b1 b2 G0 e1 e2 c1 c2 C4
  go_wp2
  generalize w3.alloc (.cells #[.int .i64 P, .int .i64 Q, .slice (some ⟨B, 0, none⟩) K K] 27) = w4 at *
  generalize w3.heap.size = C at *
  go_loopw [44] (fun t wr => ∃ (k : Nat), k ≤ K ∧ t = .int .i64 (k : Int) ∧ Hid (RaF w wr C B [.int .i64 m, .int .i64 n, .slice (some ⟨b, o, none⟩) l.length cap] [.int .i64 P, .int .i64 Q, .slice (some ⟨B, 0, none⟩) K K] (fill f K k))) (fun t _ => K - (intOf t).toNat)
  case atStart => exact ⟨0, Nat.zero_le _, rfl, I0⟩
  case round =>
    clear I0
    obtain ⟨k, hk, rfl, IK⟩ := hrel
    by_cases h1 : k < K
    · have h1' : (k : Int) < (K : Int) := by omega
      obtain ⟨j1, j2, j3⟩ := HF.out k h1
      rw [HFi.out k] at j3
      obtain ⟨t1, t2, t3, t4⟩ := nat_q (x := (k : Int)) (d := (P : Int)) rfl rfl (by have := HB.out; omega)
      obtain ⟨q, hq⟩ : ∃ q, q = k / P := ⟨_, rfl⟩
      obtain ⟨s, hs⟩ : ∃ q, q = k % P := ⟨_, rfl⟩
      have qle : q ≤ k := by rw [hq]; exact Nat.div_le_self _ _
      have sle : s ≤ k := by rw [hs]; exact Nat.mod_le _ _
      rw [← hq] at t1 t3
      rw [← hs] at t2 t4
      obtain ⟨v1, _, v3, _⟩ := nat_q (x := (q : Int)) (d := bI) rfl HbI.out (by have := HB.out; omega)
      obtain ⟨u1, _, u3, _⟩ := nat_q (x := (s : Int)) (d := bI) rfl HbI.out (by have := HB.out; omega)
      rw [← hq, ← hs] at j3
      obtain ⟨r, hr⟩ : ∃ r, r = q / by' := ⟨_, rfl⟩
      obtain ⟨c, hcc⟩ : ∃ r, r = s / by' := ⟨_, rfl⟩
      rw [← hr] at v1 v3 j3
      rw [← hcc] at u1 u3 j3
      obtain ⟨i1, hi1⟩ : ∃ i, i = r * m + c := ⟨_, rfl⟩
      rw [← hi1] at j3
      have z1 : ¬ (P : Int) = 0 := by have := HB.out; omega
      have z2 : ¬ bI = 0 := by have := HB.out; have := HbI.out; omega
      have HV : Hid (f k = gl l i1) := by
        show _ = _
        rw [Hf.out, HFi.out, ← hq, ← hs, ← hr, ← hcc, ← hi1]
      obtain ⟨k0, hk0, w0⟩ : ∃ z : Int, z = ((r * m : Nat) : Int) ∧ IntKind.i64.wrap ((r : Int) * (m : Int)) = z := ⟨_, rfl, by rw [← Int.natCast_mul]; exact wrap_in (by omega) (by have := HB.out; omega)⟩
      have w1' : IntKind.i64.wrap (k0 + (c : Int)) = (i1 : Int) := by rw [show k0 + (c : Int) = (i1 : Int) by omega]; exact wrap_in (by omega) (by have := HB.out; omega)
      have e6 : IntKind.i64.wrap ((k : Int) + 1) = ((k + 1 : Nat) : Int) := wrap_in (by omega) (by have := HB.out; omega)
      have ix := iindex b o l.length cap i1 j3
      have ixB := iindex B 0 K K k h1
      simp only [Nat.zero_add] at ixB
      have cI := (HRs.out.below IK.out.gr.out).get j3
      have HST := hidb (fill_set (f := f) h1)
      rw [HV.out] at HST
      obtain ⟨a0, a1, a2⟩ := IK.out.a0.c3
      obtain ⟨d0, d1, d2⟩ := IK.out.c0.c3
      obtain ⟨cb, fb⟩ := IK.out.b0.1 k (by simp [ir, fill_len hk]; exact h1)
      have n4 : ¬ B = b := by have : b < w.heap.size := HRs.out.lt; have := IK.out.bw; omega
      have n1 : ¬ B = C := by have := IK.out.cb; omega
      have n2 : ¬ B = w.heap.size := by have := IK.out.bw; omega
      generalize (ir (fill f K k))[k]'_ = z at *
      generalize gl l i1 = x at *
      clear hk0 hi1 hr hcc hq hs qle sle j1 j2 j3 hk HV
      go_upto_region 10 with fail
      go_quiet (fail)
      go_upto_region 11 with fail
      go_region
      all_goals
        clear a0 a1 a2 d0 d1 d2 cI ix ixB cb fb n1 n2 n4
        go_wp2
        go_roundw
        case rel => exact ⟨k + 1, by omega, rfl, by rw [← HST.out]; first | exact IK.out.put _ _ | exact (IK.out.put _ _).drew | exact ((IK.out.drewN _).put _ _) | exact ((IK.out.drewN _).put _ _).drew | exact ((IK.out.drewN _).put _ _).drewN _⟩
        case measure => simp [intOf]; omega
    · have h1' : ¬ (k : Int) < (K : Int) := by omega
      have hkn : k = K := by omega
      rw [hkn, HE.out] at IK
      clear hkn
      obtain ⟨q0, q1, q2⟩ := IK.out.c0.c3
      obtain ⟨r0, r1, r2⟩ := IK.out.a1.c3
      obtain ⟨f0, f1, f2⟩ := IK.out.a1.f3
      have RH := IK.out.a1.has (n := 3) rfl
      have lb := IK.out.bw
      have lc := IK.out.cb
      go_wp2
      refine bodyPost_ret (v := .tuple #[raV P Q (.slice (some ⟨B, 0, none⟩) K K), .nilIface]) (by simp [results, Tryd.results19, go_sem, r0, r1, r2]) rfl ⟨B, K, rfl, rfl, ?_, by omega, ?_⟩
      · have hne : ¬ w.heap.size + 1 = B := by omega
        have hh := fun x y z => (((IK.out.b0.skip hne 0 x).skip hne 1 y).skip hne 2 z)
        simp only [ir, List.map_map] at hh
        exact hh _ _ _
      · exact ((IK.out.gr.set (by omega) _ _).set (by omega) _ _).set (by omega) _ _
end Go.Proofs.YtphpfongdbidoaaDoor
