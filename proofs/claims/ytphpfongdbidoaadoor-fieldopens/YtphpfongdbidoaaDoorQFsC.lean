/-
  field.sumsOf: the walk.
-/
import Derived.Test.YtphpfongdbidoaaDoorQFsB
import Derived.Test.YtphpfongdbidoaaDoorQFdG
namespace Go.Proofs.YtphpfongdbidoaaDoor
open Go.RowKit

/-- sumsOf's own blocks: the raster, the answer, the sums, their list. -/
structure SuF (w W : World) (D M : Nat) (k0 kd : List Value) (L : List Int) : Prop where
  a0 : At W w.heap.size k0
  a1 : At W (w.heap.size + 1) [.int .i64 0, .slice none 0 0]
  d0 : At W D kd
  m0 : At W M (ir L)
  dm : ¬ D = M
  dw : w.heap.size + 1 < D
  mw : w.heap.size + 1 < M
  gr : Gr w W
theorem SuF.below {w W w' : World} {D M : Nat} {k0 kd : List Value} {L : List Int} (h : SuF w W D M k0 kd L) (hB : Below W.heap.size W w') : SuF w w' D M k0 kd L := ⟨h.a0.below hB, h.a1.below hB, h.d0.below hB, h.m0.below hB, h.dm, h.dw, h.mw, Gr.step h.gr hB⟩
theorem SuF.drew {w W : World} {D M : Nat} {k0 kd : List Value} {L : List Int} (h : SuF w W D M k0 kd L) : SuF w W.drew D M k0 kd L := ⟨h.a0, h.a1, h.d0, h.m0, h.dm, h.dw, h.mw, h.gr.drew⟩
theorem ir_set (L : List Int) (j : Nat) (x : Int) : (ir L).set j (.int .i64 x) = ir (L.set j x) := by simp [ir, List.map_set]
theorem SuF.put {w W : World} {D M : Nat} {k0 kd : List Value} {L : List Int} (h : SuF w W D M k0 kd L) (j : Nat) (x : Int) : SuF w (W.setCell ⟨M, j, none⟩ (.int .i64 x)) D M k0 kd (L.set j x) :=
  ⟨h.a0.skip (by have := h.mw; omega) _ _, h.a1.skip (by have := h.mw; omega) _ _, h.d0.skip (fun e => h.dm e.symm) _ _, by rw [← ir_set]; exact h.m0.put j _, h.dm, h.dw, h.mw, h.gr.set (by have := h.mw; omega) _ _⟩
theorem suf_cell {w W : World} {D M : Nat} {k0 kd : List Value} {L : List Int} (h : SuF w W D M k0 kd L) {j : Nat} (hj : j < L.length) : W.cell? ⟨M, j, none⟩ = some (.int .i64 L[j]) ∧ W.frozen? ⟨M, j, none⟩ = false := by
  have := h.m0.1 j (by simpa [ir] using hj)
  simpa [ir] using this
theorem made_run (K : Nat) (hK : K ≤ 20000) : ∃ CS : Array Value, CS.toList = ir (List.replicate K 0) ∧ ∀ w, (Instr.makeSlice 25 (.int .i64 (K : Int)) (.int .i64 (K : Int))).run Tryd.prog w = .ok (.slice (some ⟨w.heap.size, 0, none⟩) K K) (w.alloc (.cells CS 3)) := by
  obtain ⟨i0, hi, hz0, hz1, hz2⟩ := info_parts infoJ
  refine ⟨madeCells #[Value.int .i64 0] K, made_ir K, fun w => ?_⟩
  have := run_makeSlice (P := Tryd.prog) w 25 3 i0 (.int .i64 0) undI hi hz0 .i64 .i64 (K : Int) (K : Int) (by omega) (Int.le_refl _) (by rw [hz1]; omega) (by rw [hz2]; omega) (by omega)
  rw [hz1, Int.toNat_natCast, Nat.mul_one] at this
  exact this
theorem At.nxArr (W : World) (o : Obj) (cs : Array Value) (t : Nat) : At ((W.alloc o).alloc (.cells cs t)) (W.heap.size + 1) cs.toList := by
  have := At.newRow (W.alloc o) cs.toList t
  simpa using this
theorem At.newArr (W : World) (cs : Array Value) (t : Nat) : At (W.alloc (.cells cs t)) W.heap.size cs.toList := by
  have := At.newRow W cs.toList t
  simpa using this
set_option maxRecDepth 4000 in
set_option maxHeartbeats 16000000 in
theorem sumsOf_any {b o cap m n : Nat} {l : List Int} (w : World) (h : Rs w b o cap l) (ok : Ok l m n) : Calls Tryd.prog 23 #[raV m n (.slice (some ⟨b, o, none⟩) l.length cap)] w fun e w' => ∃ M K L, e = .returned (.agg #[.int .i64 ((m + 1 : Nat) : Int), .slice (some ⟨M, 0, none⟩) K K]) ∧ L.length = K ∧ SumL l m n L ∧ At w' M (ir L) ∧ w.heap.size ≤ M ∧ Gr w w' := by
  have ll := ok.len_le
  have hm1 := ok.m1
  have hn1 := ok.n1
  have hm2 := ok.m2
  have hn2 := ok.n2
  have kle : (n + 1) * (m + 1) ≤ 129 * 129 := Nat.mul_le_mul (by omega) (by omega)
  obtain ⟨K, hK⟩ : ∃ K, K = (n + 1) * (m + 1) := ⟨_, rfl⟩
  obtain ⟨CS, hCS, mk⟩ := made_run K (by omega)
  obtain ⟨mm, hmm, e1⟩ : ∃ q : Int, q = ((m + 1 : Nat) : Int) ∧ IntKind.i64.wrap ((m : Int) + 1) = q := ⟨_, rfl, wrap_in (by omega) (by omega)⟩
  obtain ⟨nn, hnn, e2⟩ : ∃ q : Int, q = ((n + 1 : Nat) : Int) ∧ IntKind.i64.wrap ((n : Int) + 1) = q := ⟨_, rfl, wrap_in (by omega) (by omega)⟩
  have e3 : IntKind.i64.wrap (mm * nn) = (K : Int) := by rw [hmm, hnn, ← Int.natCast_mul, Nat.mul_comm, ← hK]; exact wrap_in (by omega) (by omega)
  have HSt := hidb (SumP.start l m n)
  rw [← hK, ] at HSt
  have HRs := hidb h
  have HOk := hidb ok
  have HB := hidb (show 1 ≤ m ∧ m ≤ 128 ∧ 1 ≤ n ∧ n ≤ 128 ∧ K ≤ 16641 ∧ K = (n + 1) * (m + 1) by omega)
  have HMM := hidb hmm
  rw [← hmm]
  have G0 := hidb (((Gr.refl w).alloc (.cells #[.int .i64 m, .int .i64 n, .slice (some ⟨b, o, none⟩) l.length cap] 27)).alloc (.cells #[.int .i64 0, .slice none 0 0] 42))
  have A0 := hidb ((At.new3 w (.int .i64 m) (.int .i64 n) (.slice (some ⟨b, o, none⟩) l.length cap) 27).alloc (.cells #[.int .i64 0, .slice none 0 0] 42))
  have A1 := hidb (At.nx2 (W := w) (.cells #[.int .i64 m, .int .i64 n, .slice (some ⟨b, o, none⟩) l.length cap] 27) (.int .i64 0) (.slice none 0 0) 42)
  clear hm1 hn1 hm2 hn2 kle h ok hmm hnn ll hK
  go_enter Tryd.func23, Tryd.ntmps23
  go_upto_region 1 with fail
  have HZ := hidb (show ((w.alloc (.cells #[.int .i64 m, .int .i64 n, .slice (some ⟨b, o, none⟩) l.length cap] 27)).alloc (.cells #[.int .i64 0, .slice none 0 0] 42)).heap.size = w.heap.size + 1 + 1 by simp)
  generalize (w.alloc (.cells #[.int .i64 m, .int .i64 n, .slice (some ⟨b, o, none⟩) l.length cap] 27)).alloc (.cells #[.int .i64 0, .slice none 0 0] 42) = w1 at *
  go_cut [3] from 7 to 18 (fun s3 wx => ∃ D M, s3 = .pointer (some ⟨D, 0, none⟩) ∧ Hid (SuF w wx D M [.int .i64 m, .int .i64 n, .slice (some ⟨b, o, none⟩) l.length cap] [.int .i64 mm, .slice (some ⟨M, 0, none⟩) K K] (List.replicate K 0)))
  case first =>
    obtain ⟨a0, a1, a2⟩ := A0.out.c3
    have hlt := A0.out.lt
    go_region_held (fun w' => w'.cell? ⟨w.heap.size, 0, none⟩ = some (.int .i64 m) ∧ w'.cell? ⟨w.heap.size, 1, none⟩ = some (.int .i64 n))
      (first | (with_reducible exact ⟨a0, a1⟩) | exact ⟨a0, a1⟩ | exact ⟨(A0.out.alloc _).c3.1, (A0.out.alloc _).c3.2.1⟩ | exact ⟨((A0.out.alloc _).alloc _).c3.1, ((A0.out.alloc _).alloc _).c3.2.1⟩)
      (fail)
    all_goals
      go_wp2_with fail
      go_meet
      have hz := HZ.out
      first
        | exact ⟨w1.heap.size + 1, w1.heap.size, rfl, SuF.drew ⟨(A0.out.alloc _).alloc _, (A1.out.alloc _).alloc _, At.nx2 _ _ _ _, by rw [← hCS]; exact (At.newArr _ CS _).alloc _, by omega, by omega, by omega, (G0.out.alloc _).alloc _⟩⟩
        | exact ⟨w1.heap.size, w1.heap.size + 1, rfl, SuF.drew ⟨(A0.out.alloc _).alloc _, (A1.out.alloc _).alloc _, (At.new2 _ _ _ _).alloc _, by rw [← hCS]; exact At.nxArr _ _ CS _, by omega, by omega, by omega, (G0.out.alloc _).alloc _⟩⟩
  case rest =>
    clear A0 A1 G0 HZ
    obtain ⟨D, M, rfl, E⟩ := hcut
    obtain ⟨a0, a1, a2⟩ := E.out.a0.c3
    go_wp2
    clear a0 a1 a2 mk e1 e2 e3
    go_loopw [21] (fun t wr => ∃ (r : Nat) (L : List Int), r ≤ n ∧ t = .int .i64 (r : Int) ∧ Hid (r < n → SumP l m n r 0 L) ∧ Hid (r = n → SumL l m n L) ∧ Hid (SuF w wr D M [.int .i64 m, .int .i64 n, .slice (some ⟨b, o, none⟩) l.length cap] [.int .i64 mm, .slice (some ⟨M, 0, none⟩) K K] L)) (fun t _ => n - (intOf t).toNat)
    case atStart => exact ⟨0, _, Nat.zero_le _, rfl, fun _ => HSt.out, fun e => by have := HB.out; omega, E⟩
    case round =>
      clear E
      obtain ⟨r, L, hr, rfl, HL, HD, E⟩ := hrel
      obtain ⟨a0, a1, a2⟩ := E.out.a0.c3
      by_cases h1 : r < n
      · have h1' : (r : Int) < (n : Int) := by omega
        have HP := hidb (HL.out h1)
        obtain ⟨r1, hr1, e1⟩ : ∃ q : Int, q = ((r + 1 : Nat) : Int) ∧ IntKind.i64.wrap ((r : Int) + 1) = q := ⟨_, rfl, wrap_in (by omega) (by have := HB.out; omega)⟩
        have HR1 := hidb hr1
        clear HL HD hr1
        go_wp2
        clear a0 a1 a2
        go_loopw [5, 26] (fun s t wr => ∃ (c : Nat) (L : List Int), c ≤ m ∧ t = .int .i64 (c : Int) ∧ s = .int .i64 (rs l m r c) ∧ Hid (SumP l m n r c L) ∧ Hid (SuF w wr D M [.int .i64 m, .int .i64 n, .slice (some ⟨b, o, none⟩) l.length cap] [.int .i64 mm, .slice (some ⟨M, 0, none⟩) K K] L)) (fun _ t _ => m - (intOf t).toNat)
        case atStart => exact ⟨0, L, Nat.zero_le _, rfl, rfl, HP, E⟩
        case round =>
          clear E HP
          obtain ⟨c, L, hc, rfl, rfl, HP, E⟩ := hrel
          obtain ⟨a0, a1, a2⟩ := E.out.a0.c3
          by_cases h2 : c < m
          · have h2' : (c : Int) < (m : Int) := by omega
            obtain ⟨c1, hc1, e2⟩ : ∃ q : Int, q = ((c + 1 : Nat) : Int) ∧ IntKind.i64.wrap ((c : Int) + 1) = q := ⟨_, rfl, wrap_in (by omega) (by have := HB.out; omega)⟩
            have j0 := HOk.out.cell h2 h1
            have jl := HOk.out.len_le
            obtain ⟨i0, hi0⟩ : ∃ i, i = r * m + c := ⟨_, rfl⟩
            rw [← hi0] at j0
            obtain ⟨k0, hk0, w0⟩ : ∃ z : Int, z = ((r * m : Nat) : Int) ∧ IntKind.i64.wrap ((r : Int) * (m : Int)) = z := ⟨_, rfl, by rw [← Int.natCast_mul]; exact wrap_in (by omega) (by omega)⟩
            have w1' : IntKind.i64.wrap (k0 + (c : Int)) = (i0 : Int) := by rw [show k0 + (c : Int) = (i0 : Int) by omega]; exact wrap_in (by omega) (by omega)
            have ix := iindex b o l.length cap i0 j0
            have HC := hidb (fun (W : World) (hG : Gr w W) => (HRs.out.below hG.out).get j0)
            have rb := rs_bd HOk.out r (c + 1)
            have hrs : rs l m r (c + 1) = rs l m r c + gl l i0 := by rw [hi0]; rfl
            have s1 : IntKind.i64.wrap (rs l m r c + gl l i0) = rs l m r (c + 1) := by rw [← hrs]; exact wrap_in (by have := HB.out; omega) (by have := HB.out; omega)
            have pb := ps_bd HOk.out (c := c + 1) (by have := HB.out; omega) r
            have s2 : IntKind.i64.wrap (ps l m r (c + 1) + rs l m r (c + 1)) = ps l m r (c + 1) + rs l m r (c + 1) := wrap_in (by have := HB.out; omega) (by have := HB.out; omega)
            obtain ⟨j, hj⟩ : ∃ j, j = (r + 1) * (m + 1) + (c + 1) := ⟨_, rfl⟩
            have HN := hidb (HP.out.step h1 h2)
            rw [← hj] at HN
            have jb : j < K := by
              have h3 : (r + 1 + 1) * (m + 1) ≤ (n + 1) * (m + 1) := Nat.mul_le_mul_right _ (by omega)
              rw [Nat.add_mul (r + 1) 1] at h3
              have := HB.out
              omega
            obtain ⟨k2, hk2, w2⟩ : ∃ z : Int, z = (((r + 1) * (m + 1) : Nat) : Int) ∧ IntKind.i64.wrap (r1 * mm) = z := ⟨_, rfl, by rw [HR1.out, HMM.out, ← Int.natCast_mul]; exact wrap_in (by omega) (by have := HB.out; omega)⟩
            obtain ⟨k3, hk3, w3⟩ : ∃ z : Int, z = k2 + (c : Int) ∧ IntKind.i64.wrap (k2 + (c : Int)) = z := ⟨_, rfl, wrap_in (by omega) (by have := HB.out; omega)⟩
            have w4 : IntKind.i64.wrap (k3 + 1) = (j : Int) := by rw [show k3 + 1 = (j : Int) by omega]; exact wrap_in (by omega) (by have := HB.out; omega)
            have iy := iindex M 0 K K j jb
            rw [Nat.zero_add] at iy
            have hLK : L.length = K := by rw [HP.out.len]; have := HB.out; omega
            have KA : Hid (∀ W, SuF w W D M [.int .i64 m, .int .i64 n, .slice (some ⟨b, o, none⟩) l.length cap] [.int .i64 mm, .slice (some ⟨M, 0, none⟩) K K] L → Calls Tryd.prog 40 #[.agg #[.int .i64 mm, .slice (some ⟨M, 0, none⟩) K K], .int .i64 (r : Int), .int .i64 c1] W fun e w' => e = .returned (.int .i64 (ps l m r (c + 1))) ∧ Gr W w') := fun W hE => by
              have hk : r * (m + 1) + (c + 1) < L.length := by
                rw [hLK]
                have h3 : r * (m + 1) ≤ (r + 1) * (m + 1) := Nat.mul_le_mul_right _ (by omega)
                omega
              have ee : (r : Int) * mm = ((r * (m + 1) : Nat) : Int) := by rw [HMM.out]; exact (Int.natCast_mul _ _).symm
              have := sat_any mm (r : Int) c1 (l := L) (r * (m + 1) + (c + 1)) hk (by rw [ee, hc1]; omega) (by rw [ee]; omega) (by rw [ee]; have := HB.out; omega) (by have := HB.out; omega) W (hE.m0.isl K)
              rw [gl_get hk, HP.out.rows r (c + 1) (Nat.le_refl _) (by omega), hLK] at this
              exact this
            have HC1 := hidb hc1
            have HJ2 := hidb (show j < L.length by rw [hLK]; exact jb)
            have HJ := hidb jb
            generalize rs l m r c = rc at *
            obtain ⟨rd, hrd⟩ : ∃ q, q = rs l m r (c + 1) := ⟨_, rfl⟩
            rw [← hrd] at s1 s2 HN hrs
            have HRd := hidb hrd
            clear hrd rb
            generalize ps l m r (c + 1) = pd at *
            generalize gl l i0 = x0 at *
            obtain ⟨tot, htot⟩ : ∃ q : Int, q = pd + rd := ⟨_, rfl⟩
            have s2' : IntKind.i64.wrap (pd + rd) = tot := by rw [htot]; exact s2
            rw [← htot] at HN
            clear s2
            have HRD := hidb hrs
            clear hk0 hk2 hk3 hi0 j0 jl pb hrs hj jb hLK hc1 HP htot
            have cc := HC.out _ E.out.gr
            go_upto_region 10 with fail
            clear a0 a1 a2 cc
            have E2 := E.out
            clear E
            go_region_held (fun w' => w'.cell? ⟨D, 0, none⟩ = some (.int .i64 mm) ∧ w'.cell? ⟨D, 1, none⟩ = some (.slice (some ⟨M, 0, none⟩) K K))
              (first | (with_reducible exact E2.d0.c2) | exact E2.d0.c2 | exact (E2.put _ _).d0.c2)
              ((first
                | (go_at_call 40; with_reducible refine (KA.out _ (by with_reducible first | exact E2 | exact E2.drew)).mono ?_; rintro e w8 ⟨rfl, hB8⟩; (with_reducible first | replace E2 := E2.below hB8.out | replace E2 := E2.drew.below hB8.out); clear hB8; obtain ⟨cj, fj⟩ := suf_cell E2 HJ2.out)))
            all_goals
              go_wp2
              go_roundw
              case rel => exact ⟨c + 1, _, by omega, by rw [HC1.out], by rw [HRd.out], HN, by first | exact hidb (E2.put _ _) | exact hidb (E2.put _ _).drew | exact hidb (E2.drew.put _ _)⟩
              case measure => have := HC1.out; simp [intOf]; omega
          · have h2' : ¬ (c : Int) < (m : Int) := by omega
            have hcm : c = m := by omega
            rw [hcm] at HP
            have HN1 : Hid (r + 1 < n → SumP l m n (r + 1) 0 L) := fun k => HP.out.next k
            have HN2 : Hid (r + 1 = n → SumL l m n L) := fun k => HP.out.done k
            clear hcm HP
            go_wp2
            go_roundw
            case rel => exact ⟨r + 1, L, by omega, by rw [HR1.out], HN1, HN2, E⟩
            case measure => have := HR1.out; simp [intOf]; omega
      · have h1' : ¬ (r : Int) < (n : Int) := by omega
        have HS := hidb (HD.out (by omega))
        have hLK : L.length = K := by rw [HS.out.len]; have := HB.out; omega
        have HLK := hidb hLK
        clear hLK HL HD
        clear a0 a1 a2
        obtain ⟨d0, d1⟩ := E.out.d0.c2
        obtain ⟨z0, z1⟩ := E.out.a1.c2
        obtain ⟨f0, f1⟩ := E.out.a1.f2
        go_wp2
        refine bodyPost_ret (v := .agg #[.int .i64 mm, .slice (some ⟨M, 0, none⟩) K K]) (by simp [results, Tryd.results23, go_sem, z0, z1]) rfl ⟨M, K, rfl, L, HLK.out, HS.out, ?_, ?_, ?_⟩
        · have hne : ¬ w.heap.size + 1 = M := by have := E.out.mw; omega
          exact (E.out.m0.skip hne _ _).skip hne _ _
        · have := E.out.mw; omega
        · exact (E.out.gr.set (by omega) _ _).set (by omega) _ _
end Go.Proofs.YtphpfongdbidoaaDoor
