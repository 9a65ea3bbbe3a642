/-
  mercatorref4.LakesOf.; BasinLakes, where the raster is right.; BasinLakes: the law.
-/
import Derived.Test.YtmjlaonlhabblaaDoorQJ14
import Derived.Test.YtmjlaonlhabblaaDoorQDrT
import Derived.BigQuiet
import Derived.Test.YtmjlaonlhabblaaDoorQJ18
namespace Go.Proofs.YtmjlaonlhabblaaDoor
open Go.RowKit
attribute [local go_sem ↓] Go.wp_at_zero Go.wp_at_succ

/-- What lies in memory while lakes are named. -/
structure LM (w W : World) (T FI B : Nat) (t : List Value) (Lf L : List Int) : Prop where
  t : At W T t
  f : At W FI (ir Lf)
  l : At W B (ir L)
  gr : Gr w W
  ne : (T ≠ B ∧ FI ≠ B) ∧ w.heap.size ≤ B
section
variable {w W : World} {T FI B : Nat} {t : List Value} {Lf L : List Int}
theorem LM.below {w' : World} (h : LM w W T FI B t Lf L) (hB : Below W.heap.size W w') : LM w w' T FI B t Lf L := ⟨At.below hB h.t, At.below hB h.f, At.below hB h.l, Gr.step h.gr hB, h.ne⟩
theorem LM.drewN (h : LM w W T FI B t Lf L) (k : Nat) : LM w (W.drewN k) T FI B t Lf L := h.below ((Gr.refl W).drewN k).out
theorem LM.put (h : LM w W T FI B t Lf L) (i : Nat) (x : Int) : LM w (W.setCell ⟨B, i, none⟩ (.int .i64 x)) T FI B t Lf (L.set i x) :=
  ⟨h.t.skip (Ne.symm h.ne.1.1) _ _, h.f.skip (Ne.symm h.ne.1.2) _ _, by rw [← ir_set]; exact h.l.put i _, h.gr.set h.ne.2 _ _, h.ne⟩
end
set_option maxRecDepth 4000 in
set_option maxHeartbeats 8000000 in
theorem lakesOf_any {m n pb po Lb Lo Lcap FI : Nat} {l Lf : List Int} (v2 v3 : Value) (w : World) (hp : PtR w pb po m n (.slice (some ⟨Lb, Lo, none⟩) l.length Lcap)) (hR : Rs w Lb Lo Lcap l) (ok : Ok l m n) (hF : At w FI (ir Lf)) (hFl : Lf.length = l.length ∧ ∀ i, i < l.length → gl Lf i = fih m n l i) : Calls Tryd.prog 18 #[.pointer (some ⟨pb, po, none⟩), .agg #[.slice (some ⟨FI, 0, none⟩) l.length l.length, v2, v3]] w fun e w' => ∃ B, e = .returned (.slice (some ⟨B, 0, none⟩) l.length l.length) ∧ ∃ L, At w' B (ir L) ∧ LI m n l L ∧ (∀ i k, i < l.length → k < l.length → Stb m L i k) ∧ w.heap.size ≤ B ∧ Gr w w' := by
  have hlen := ok.len_le
  obtain ⟨CS, hCS, mk⟩ := made_run l.length (by omega)
  have E0 : Hid (LM w ((w.alloc (.cells #[.slice (some ⟨FI, 0, none⟩) l.length l.length, v2, v3] 38)).alloc (.cells CS 3)) w.heap.size FI (w.heap.size + 1) [.slice (some ⟨FI, 0, none⟩) l.length l.length, v2, v3] Lf (lk0 m n l 0)) := by
    refine ⟨(At.new3 _ _ _ _ _).alloc _, (hF.alloc _).alloc _, ?_, ((Gr.refl w).alloc _).alloc _, ⟨by omega, ?_⟩, by omega⟩
    · rw [lk0_0, ← hCS]; exact At.nxArr _ _ _ _
    · have := hF.lt; omega
  have HTo := hidb (fun i k (hi : i < l.length) (hk : k < l.length) W (hG : Gr w W) => touchOf_any (pb := pb) (po := po) i k ok.m1 (by omega) (by omega) W (hp.below hG.out))
  have HPt := hidb (fun W (hG : Gr w W) => (hp.below hG.out).all)
  have HRs := hidb (fun W (hG : Gr w W) => hR.below hG.out)
  have HFl := hidb hFl
  have HL := hidb hlen
  obtain ⟨N, hN⟩ : ∃ N, N = l.length := ⟨_, rfl⟩
  have HN := hidb hN
  rw [← hN] at mk E0 HPt HTo HL ⊢
  clear hp hR ok hF hFl hlen hCS hN
  go_enter Tryd.func18, Tryd.ntmps18
  obtain ⟨p0, p1, p2⟩ := HPt.out _ ((Gr.refl w).alloc (.cells #[.slice (some ⟨FI, 0, none⟩) N N, v2, v3] 38))
  go_wp2
  obtain ⟨B, hBd⟩ : ∃ B, B = w.heap.size + 1 := ⟨_, rfl⟩
  rw [← hBd] at E0 ⊢
  clear hBd mk p0 p1 p2
  generalize (w.alloc (.cells #[.slice (some ⟨FI, 0, none⟩) N N, v2, v3] 38)).alloc (.cells CS 3) = w1 at *
  go_loopw [7] (fun t wr => ∃ i : Nat, i ≤ N ∧ t = .int .i64 (i : Int) ∧ Hid (LM w wr w.heap.size FI B [.slice (some ⟨FI, 0, none⟩) N N, v2, v3] Lf (lk0 m n l i))) (fun t _ => N - (intOf t).toNat)
  case atStart => exact ⟨0, Nat.zero_le _, rfl, E0⟩
  case round =>
    clear E0
    obtain ⟨i, hi, rfl, E⟩ := hrel
    by_cases h1 : i < N
    · have h1' : (i : Int) < (N : Int) := by omega
      have HiN := hidb h1
      have hil : i < l.length := by rw [← HN.out]; exact h1
      have e1 : IntKind.i64.wrap ((i : Int) + 1) = ((i + 1 : Nat) : Int) := by rw [show (i : Int) + 1 = ((i + 1 : Nat) : Int) by omega]; exact wrap_in (by have := HL.out; omega) (by have := HL.out; omega)
      have ixB := iindex B 0 N N i h1
      have ixF := iindex FI 0 N N i h1
      rw [Nat.zero_add] at ixB ixF
      have ixL := iindex Lb Lo N Lcap i h1
      obtain ⟨cB, fB⟩ := E.out.l.get (j := i) (by rw [lk0_len]; exact hil)
      rw [gl_get (by rw [lk0_len]; exact hil)] at cB
      have E2 := hidb (E.out.put i (-1))
      have HSt := hidb (lk0_set m n l i)
      have HW : Hid (wetP m n l i ↔ gl l i < fih m n l i) := ⟨fun h => h.2, fun h => ⟨hil, h⟩⟩
      have HLk := hidb (lk0_len m n l i)
      clear E
      go_upto_region 7 with fail
      generalize wr.setCell ⟨B, i, none⟩ (.int .i64 (-1)) = w2 at *
      clear cB fB
      obtain ⟨p0, p1, p2⟩ := HPt.out _ E2.out.gr
      have t0 := E2.out.t.c3.1
      have cF := (E2.out.f.get (j := i) (by rw [HFl.out.1]; exact hil)).1
      rw [gl_get (by rw [HFl.out.1]; exact hil), HFl.out.2 i hil] at cF
      have cL := (HRs.out _ E2.out.gr).get hil
      obtain ⟨-, fB⟩ := E2.out.l.get (j := i) (by rw [List.length_set, HLk.out]; exact hil)
      have cB := (E2.out.l.get (j := i) (by rw [List.length_set, HLk.out]; exact hil)).1
      rw [List.getElem_set_self] at cB
      by_cases hw : gl l i < fih m n l i
      · have HE : Hid (((lk0 m n l i).set i (-1)).set i (i : Int) = lk0 m n l (i + 1)) := by show _ = _; rw [← HSt.out, if_pos (HW.out.2 hw), List.set_set]
        clear hil h1
        generalize gl l i = li at *
        generalize fih m n l i = fi at *
        go_quiet (fail)
        go_upto_region 8 with fail
        generalize hwv : World.drewN w2 _ = w3
        replace E2 := hidb (show LM w w3 w.heap.size FI B _ Lf _ by rw [← hwv]; exact E2.out.drewN _)
        have cB2 : w3.cell? ⟨B, i, none⟩ = some (.int .i64 (-1)) := by rw [← hwv]; exact cB
        have fB2 : w3.frozen? ⟨B, i, none⟩ = false := by rw [← hwv]; exact fB
        have E3 := hidb (E2.out.put i (i : Int))
        rw [HE.out] at E3
        clear hwv p0 p1 p2 t0 cF cL cB fB E2
        go_wp2
        go_roundw
        case rel => exact ⟨i + 1, HiN.out, by go_num, E3⟩
        case measure => have := HiN.out; simp [intOf]; omega
      · have HE : Hid ((lk0 m n l i).set i (-1) = lk0 m n l (i + 1)) := by show _ = _; rw [← HSt.out, if_neg (fun h => hw (HW.out.1 h))]
        clear hil h1
        generalize gl l i = li at *
        generalize fih m n l i = fi at *
        go_quiet (fail)
        go_wp2
        go_roundw
        case rel => exact ⟨i + 1, HiN.out, by go_num, by rw [← HE.out]; exact hidb (E2.out.drewN _)⟩
        case measure => have := HiN.out; simp [intOf]; omega
    · have h1' : ¬ (i : Int) < (N : Int) := by omega
      have E1 : Hid (LM w wr w.heap.size FI B [.slice (some ⟨FI, 0, none⟩) N N, v2, v3] Lf (lk0 m n l l.length) ∧ LI m n l (lk0 m n l l.length)) := by
        have : i = l.length := by rw [← HN.out]; omega
        rw [← this]
        exact ⟨E.out, by rw [this]; exact lk0_all m n l⟩
      obtain ⟨L1, hL1⟩ : ∃ L, L = lk0 m n l l.length := ⟨_, rfl⟩
      rw [← hL1] at E1
      clear h1 E hL1
      go_wp2
      go_loopg [8] (2 * mS L1 + 1) (fun gk s wr => ∃ (b : Bool) (L : List Int), s = .bool b ∧ Hid ((LM w wr w.heap.size FI B [.slice (some ⟨FI, 0, none⟩) N N, v2, v3] Lf L ∧ LI m n l L) ∧ 2 * mS L + (if b then 1 else 0) ≤ gk ∧ (b = false → ∀ i k, i < l.length → k < l.length → Stb m L i k)))
      case atStart => exact ⟨true, L1, rfl, hidb ⟨E1.out, by simp, fun h => by cases h⟩⟩
      case round =>
        clear E1
        obtain ⟨b, L, rfl, E⟩ := hrel
        cases b with
        | false =>
          have HZ := hidb (show At wr B (ir L) ∧ LI m n l L ∧ (∀ i k, i < N → k < N → Stb m L i k) ∧ w.heap.size ≤ B ∧ Gr w wr from ⟨E.out.1.1.l, E.out.1.2, fun i k hi hk => E.out.2.2 rfl i k (by rw [← HN.out]; exact hi) (by rw [← HN.out]; exact hk), E.out.1.1.ne.2, E.out.1.1.gr⟩)
          clear E
          go_wp2
          go_ret
          exact ⟨B, rfl, L, HZ.out⟩
        | true =>
          have HC := hidb (show 2 * mS L + 1 ≤ gk from E.out.2.1)
          have E2 := hidb E.out.1
          obtain ⟨C0, hC0⟩ : ∃ C, C = mS L := ⟨_, rfl⟩
          rw [← hC0] at HC
          have HC0 := hidb hC0
          clear E hC0
          go_wp2
          go_loopw [8, 9] (fun s t wr => ∃ (b : Bool) (i : Nat) (L : List Int), i ≤ N ∧ s = .bool b ∧ t = .int .i64 (i : Int) ∧ Hid ((LM w wr w.heap.size FI B [.slice (some ⟨FI, 0, none⟩) N N, v2, v3] Lf L ∧ LI m n l L) ∧ mS L ≤ C0 ∧ (b = true → mS L < C0) ∧ (b = false → ∀ x k, x < i → k < l.length → Stb m L x k))) (fun _ t _ => N - (intOf t).toNat)
          case atStart => exact ⟨false, 0, L, Nat.zero_le _, rfl, rfl, hidb ⟨E2.out, Nat.le_of_eq HC0.out.symm, (fun h => by cases h), fun _ x k hx => absurd hx (Nat.not_lt_zero _)⟩⟩
          case round =>
            clear E2 HC0
            obtain ⟨b, i, L, hi, rfl, rfl, E⟩ := hrel
            by_cases h2 : ¬ i < N
            · have h2' : ¬ (i : Int) < (N : Int) := by omega
              have hiN : i = l.length := by rw [← HN.out]; omega
              have HE := hidb E.out.2.2.2
              rw [hiN] at HE
              clear h2 hiN
              go_wp2
              go_roundg (2 * mS L + (if b then 1 else 0))
              case measure =>
                have k1 := HC.out
                have k2 := E.out.2.1
                have k3 := E.out.2.2.1
                cases b with
                | false => simp; omega
                | true => have := k3 rfl; simp; omega
              case rel => exact ⟨b, L, rfl, hidb ⟨E.out.1, Nat.le_refl _, HE.out⟩⟩
            · have h2' : (i : Int) < (N : Int) := by omega
              have hiN : i < N := by omega
              have HiN := hidb hiN
              have e1 : IntKind.i64.wrap ((i : Int) + 1) = ((i + 1 : Nat) : Int) := by rw [show (i : Int) + 1 = ((i + 1 : Nat) : Int) by omega]; exact wrap_in (by have := HL.out; omega) (by have := HL.out; omega)
              have HE1 := hidb e1
              clear h2 hiN e1
              go_wp2
              go_loopw [8, 10] (fun s t wr => ∃ (b : Bool) (k : Nat) (L : List Int), k ≤ N ∧ s = .bool b ∧ t = .int .i64 (k : Int) ∧ Hid ((LM w wr w.heap.size FI B [.slice (some ⟨FI, 0, none⟩) N N, v2, v3] Lf L ∧ LI m n l L) ∧ mS L ≤ C0 ∧ (b = true → mS L < C0) ∧ (b = false → (∀ x k, x < i → k < l.length → Stb m L x k) ∧ ∀ y, y < k → Stb m L i y))) (fun _ t _ => N - (intOf t).toNat)
              case atStart => exact ⟨b, 0, L, Nat.zero_le _, rfl, rfl, hidb ⟨E.out.1, E.out.2.1, E.out.2.2.1, fun hb => ⟨E.out.2.2.2 hb, fun y hy => absurd hy (Nat.not_lt_zero _)⟩⟩⟩
              case round =>
                clear E
                obtain ⟨b, k, L, hk, rfl, rfl, E⟩ := hrel
                by_cases h3 : ¬ k < N
                · have h3' : ¬ (k : Int) < (N : Int) := by omega
                  have e1 := HE1.out
                  have hkl : k = l.length := by rw [← HN.out]; omega
                  have HE : Hid (b = false → ∀ x k, x < i + 1 → k < l.length → Stb m L x k) := fun hb x y hx hy => by
                    by_cases e : x = i
                    · rw [e]; exact (E.out.2.2.2 hb).2 y (by omega)
                    · exact (E.out.2.2.2 hb).1 x y (by omega) hy
                  clear h3 hkl
                  go_wp2
                  go_roundw
                  case rel => exact ⟨b, i + 1, L, HiN.out, rfl, by go_num, hidb ⟨E.out.1, E.out.2.1, E.out.2.2.1, HE.out⟩⟩
                  case measure => have := HiN.out; simp [intOf]; omega
                · have h3' : (k : Int) < (N : Int) := by omega
                  have hkN : k < N := by omega
                  have HkN := hidb hkN
                  have e2 : IntKind.i64.wrap ((k : Int) + 1) = ((k + 1 : Nat) : Int) := by rw [show (k : Int) + 1 = ((k + 1 : Nat) : Int) by omega]; exact wrap_in (by have := HL.out; omega) (by have := HL.out; omega)
                  have ixI := iindex B 0 N N i HiN.out
                  have ixK := iindex B 0 N N k hkN
                  rw [Nat.zero_add] at ixI ixK
                  have HT := hidb (HTo.out i k HiN.out hkN _ E.out.1.1.gr)
                  have HSk : Hid (Stb m L i k → b = false → (∀ x k, x < i → k < l.length → Stb m L x k) ∧ ∀ y, y < k + 1 → Stb m L i y) := fun hs hb => ⟨(E.out.2.2.2 hb).1, fun y hy => by
                    by_cases e : y = k
                    · rw [e]; exact hs
                    · exact (E.out.2.2.2 hb).2 y (by omega)⟩
                  by_cases ht : tch m i k
                  · rw [decide_eq_true ht] at HT
                    clear h3 hkN
                    go_wp2_with fail
                    refine HT.out.mono ?_
                    rintro e w5 ⟨rfl, hB5⟩
                    replace E := hidb (show (LM w w5 w.heap.size FI B [.slice (some ⟨FI, 0, none⟩) N N, v2, v3] Lf L ∧ LI m n l L) ∧ mS L ≤ C0 ∧ (b = true → mS L < C0) from ⟨⟨E.out.1.1.below hB5.out, E.out.1.2⟩, E.out.2.1, E.out.2.2.1⟩)
                    have hil : i < L.length := by rw [E.out.1.2.len, ← HN.out]; exact HiN.out
                    have hkl : k < L.length := by rw [E.out.1.2.len, ← HN.out]; exact HkN.out
                    have cI := (E.out.1.1.l.get hil).1
                    obtain ⟨cK, fK⟩ := E.out.1.1.l.get hkl
                    rw [gl_get hil] at cI
                    rw [gl_get hkl] at cK
                    clear hB5 HT
                    by_cases h0 : 0 ≤ gl L i
                    · by_cases hlt : gl L i < gl L k
                      · have hput := E.out.1.2.put (by rw [← HN.out]; exact HiN.out) (by rw [← HN.out]; exact HkN.out) ht h0 hlt
                        have HM := hidb (mS_set hkl hlt hput.2)
                        have HE2 := hidb (show LI m n l (L.set k (gl L i)) from hput.1)
                        have HEc := hidb E.out.2.1
                        have E6 := hidb E.out.1.1
                        have HLi := hidb (show i < L.length ∧ k < L.length from ⟨hil, hkl⟩)
                        clear hput ht hil hkl E HSk
                        go_upto_region 19 with fail
                        go_quiet (fail)
                        go_upto_region 20 with fail
                        generalize hwv : World.drewN w5 _ = w6
                        replace E6 := hidb (show LM w w6 w.heap.size FI B _ Lf _ by rw [← hwv]; exact E6.out.drewN _)
                        have cI2 : w6.cell? ⟨B, i, none⟩ = some (.int .i64 (gl L i)) := by rw [← hwv]; exact cI
                        have cK2 : w6.cell? ⟨B, k, none⟩ = some (.int .i64 (gl L k)) := by rw [← hwv]; exact cK
                        have fK2 : w6.frozen? ⟨B, k, none⟩ = false := by rw [← hwv]; exact fK
                        have E7 := hidb (E6.out.put k (gl L i))
                        clear hwv cI cK fK E6
                        go_wp2
                        go_roundw
                        case rel => exact ⟨true, k + 1, _, HkN.out, rfl, by go_num, hidb ⟨⟨E7.out, HE2.out⟩, by have := HM.out; have := HEc.out; omega, (fun _ => by have := HM.out; have := HEc.out; omega), fun h => by cases h⟩⟩
                        case measure => have := HkN.out; simp [intOf]; omega
                      · have HS2 := hidb (HSk.out (fun _ _ => hlt))
                        clear ht hil hkl HSk
                        go_upto_region 19 with fail
                        go_quiet (fail)
                        go_wp2
                        go_roundw
                        case rel => exact ⟨b, k + 1, L, HkN.out, rfl, by go_num, hidb ⟨⟨E.out.1.1.drewN _, E.out.1.2⟩, E.out.2.1, E.out.2.2, HS2.out⟩⟩
                        case measure => have := HkN.out; simp [intOf]; omega
                    · have HS2 := hidb (HSk.out (fun _ h => absurd h h0))
                      have h0d : decide (0 ≤ gl L i) = false := decide_eq_false h0
                      have h0' : gl L i < 0 := by omega
                      clear ht hil hkl HSk
                      go_upto_region 19 with fail
                      go_quiet (fail)
                      go_wp2
                      go_roundw
                      case rel => exact ⟨b, k + 1, L, HkN.out, rfl, by go_num, hidb ⟨⟨E.out.1.1.drewN _, E.out.1.2⟩, E.out.2.1, E.out.2.2, HS2.out⟩⟩
                      case measure => have := HkN.out; simp [intOf]; omega
                  · rw [decide_eq_false ht] at HT
                    have HS2 := hidb (HSk.out (fun h => absurd h ht))
                    clear h3 hkN ht HSk
                    go_wp2_with fail
                    refine HT.out.mono ?_
                    rintro e w5 ⟨rfl, hB5⟩
                    replace E := hidb (show (LM w w5 w.heap.size FI B [.slice (some ⟨FI, 0, none⟩) N N, v2, v3] Lf L ∧ LI m n l L) ∧ mS L ≤ C0 ∧ (b = true → mS L < C0) from ⟨⟨E.out.1.1.below hB5.out, E.out.1.2⟩, E.out.2.1, E.out.2.2.1⟩)
                    clear hB5 HT
                    go_upto_region 19 with fail
                    go_quiet (fail)
                    go_wp2
                    go_roundw
                    case rel => exact ⟨b, k + 1, L, HkN.out, rfl, by go_num, hidb ⟨⟨E.out.1.1.drewN _, E.out.1.2⟩, E.out.2.1, E.out.2.2, HS2.out⟩⟩
                    case measure => have := HkN.out; simp [intOf]; omega
end Go.Proofs.YtmjlaonlhabblaaDoor
namespace Go.Proofs.YtmjlaonlhabblaaDoor
open Go.RowKit
attribute [local go_sem ↓] Go.wp_at_zero Go.wp_at_succ

/-- What lies in memory while the law looks at one lake: what was there, and the lake so far. -/
structure LQ (w0 W : World) (base q : Nat) (v : Value) (M : List Nat) : Prop where
  gr : Gr w0 W
  r : W.ownsRow base 3 1 v q (ir (on M))
  b : w0.heap.size ≤ base ∧ base ≤ W.heap.size
theorem LQ.app {w0 W w' : World} {base q : Nat} {v v' : Value} {M : List Nat} {x : Nat} {ob : Obj} (h : LQ w0 W base q v M) (hown : w'.ownsRow base 3 1 v' (q + 1) (ir (on M ++ [(x : Int)]))) (hg : (W.alloc ob).grownBy w' v.ownBlock) : LQ w0 w' base (q + 1) v' (M ++ [x]) := by
  obtain ⟨b3, b4⟩ := h.b
  refine ⟨Below.grown (h.gr.alloc ob).out hg (by have := h.gr.out.size; simp; omega) (fun k hk => by have := (h.r.lt k hk).1; omega), by rw [show on (M ++ [x]) = on M ++ [(x : Int)] by simp [on]]; exact hown, b3, by have := hg.size; simp at this; omega⟩
theorem LQ.drewN {w0 W : World} {base q : Nat} {v : Value} {M : List Nat} (h : LQ w0 W base q v M) (k : Nat) : LQ w0 (W.drewN k) base q v M := by
  have hB : Below W.heap.size W (W.drewN k) := ((Gr.refl W).drewN k).out
  exact ⟨h.gr.drewN k, own_keep h.r hB, h.b.1, by have := hB.size; have := h.b.2; omega⟩
/-- What was there when the law began to look. -/
structure LF (w W : World) (pb po m n b o cap base FB FI B : Nat) (l L Lf : List Int) (v v2 v3 : Value) (vs : List Value) : Prop where
  gr : Gr w W
  rr : RR W base v vs (lkL m n l)
  n : At W B (ir L)
  f : At W FB [.slice (some ⟨FI, 0, none⟩) l.length l.length, v2, v3]
  fi : At W FI (ir Lf)
theorem LF.below {w W w' : World} {pb po m n b o cap base FB FI B : Nat} {l L Lf : List Int} {v v2 v3 : Value} {vs : List Value} (h : LF w W pb po m n b o cap base FB FI B l L Lf v v2 v3 vs) (hB : Below W.heap.size W w') : LF w w' pb po m n b o cap base FB FI B l L Lf v v2 v3 vs :=
  ⟨Gr.step h.gr hB, h.rr.below hB, At.below hB h.n, At.below hB h.f, At.below hB h.fi⟩
set_option maxRecDepth 4000 in
set_option maxHeartbeats 32000000 in
theorem lakesL_B (g : Nat → Addr) {m n pb po b o cap : Nat} {l : List Int} {sd : Option Addr} {sb so scap : Nat} {ot : List Int} (hM : ot.length ≤ 200) (w : World) (hl : Laid w g) (ra : Rin w pb po m n (some ⟨b, o, none⟩) b o cap l) (hr : Rs w b o cap l) (ok : Ok l m n) (ll : l.length ≤ 80) (hv : vcode m n l = 0) (hI : ISl w sd sb so scap ot) : Calls Tryd.prog 4 #[.pointer (some ⟨pb, po, none⟩), .slice sd ot.length scap] w fun e w' => e = .returned (.bool true) ∧ Gr w w' := by
  have CR := hidb (based_any g w hl.lai)
  have S1 := hidb (fun W1 (hG : Gr w W1) => small4_any pb po m n (some ⟨b, o, none⟩) l.length cap W1 (ra.below hG).pt)
  rw [decide_eq_true ll] at S1
  have C1 := hidb (fun W1 (hG : Gr w W1) => Lakes_ok g W1 (hr.below hG.out) ok hv (hl.below hG.out).lai)
  obtain ⟨x1, x2, ev, C2a, HEva⟩ : ∃ (x1 x2 : Int) (ev : Value), (∀ W1, Gr w W1 → Calls Tryd.prog 17 #[raV m n (.slice (some ⟨b, o, none⟩) l.length cap), .slice sd ot.length scap] W1 fun e w' => e = .returned (.tuple #[.int .i64 x1, .int .i64 x2, ev]) ∧ Gr W1 w') ∧ (¬ ot ∈ lkL m n l → x1 = 0 ∧ x2 = 0 ∧ ev = errV g 2) := by
    by_cases hm : ot ∈ lkL m n l
    · exact ⟨_, _, _, fun W1 hG => depth_ok g W1 (hr.below hG.out) ok hv (hl.below hG.out).lai (hI.below hG.out) hm, fun h => absurd hm h⟩
    · exact ⟨_, _, _, fun W1 hG => depth_bad g W1 (hr.below hG.out) ok hv (hl.below hG.out).lai (hI.below hG.out) (by omega) hm, fun _ => ⟨rfl, rfl, rfl⟩⟩
  have C2 := hidb C2a
  have HEv := hidb HEva
  have C3 := hidb (fun W1 (hG : Gr w W1) {ad2 : Option Addr} {b2 cap2 : Nat} {lk : List Int} (h : ISl W1 ad2 b2 0 cap2 lk) (hm : lk ∈ lkL m n l) => depth_ok g W1 (hr.below hG.out) ok hv (hl.below hG.out).lai h hm)
  have CW := hidb (fun W1 (hG : Gr w W1) => rasterError_any pb po m n (some ⟨b, o, none⟩) b o cap l W1 (ra.below hG).pt (ra.below hG).sl (by omega))
  rw [hv] at CW
  have CE := hidb (fun W1 (hG : Gr w W1) => coded_sent g 2 (by decide) 3 W1 (hl.below hG.out))
  have CF := hidb (fun W1 (hG : Gr w W1) => floodOf_any W1 (ra.below hG).pt (hr.below hG.out) ok)
  have CL := hidb (fun W1 (hG : Gr w W1) {FI : Nat} {Lf : List Int} (v2 v3 : Value) (hF : At W1 FI (ir Lf)) (hFl : Lf.length = l.length ∧ ∀ i, i < l.length → gl Lf i = fih m n l i) => lakesOf_any v2 v3 W1 (ra.below hG).pt (hr.below hG.out) ok hF hFl)
  have HR := hidb ra
  have HRs := hidb hr
  have HOt := hidb hI
  have HM := hidb hM
  have HL := hidb (show l.length ≤ 80 from ll)
  have HOk := hidb ok
  have hM' : ¬ (200 : Int) < (ot.length : Int) := by omega
  obtain ⟨N, hN⟩ : ∃ N, N = l.length := ⟨_, rfl⟩
  obtain ⟨K, hK⟩ : ∃ N, N = ot.length := ⟨_, rfl⟩
  have HN := hidb hN
  have HK := hidb hK
  rw [← hN] at C1 C2 C3 CF CL HL
  rw [← hK] at C2 hM' ⊢
  clear hl ra hr ok ll hv hN hK hM hI HEva C2a
  go_enter Tryd.func4, Tryd.ntmps4
  go_wp2_with fail
  refine CR.out.mono ?_
  rintro e w1 ⟨rfl, hB⟩
  have G := hidb hB
  clear hB
  go_wp2_with fail
  refine (S1.out _ G.out).mono ?_
  rintro e w2 ⟨rfl, rfl⟩
  obtain ⟨p0, p1, p2⟩ := (HR.out.below G.out).pt.all
  rw [← HN.out] at p2
  go_wp2_with fail
  refine (C1.out _ G.out).mono ?_
  rintro e w3 ⟨v, rfl, base, vs, hRR, -, hB3⟩
  replace G := hidb (Gr.step G.out hB3.out)
  have HRR := hidb (show RR w3 base v vs (lkL m n l) by unfold lkL; rw [← HN.out]; exact hRR)
  clear hB3 p0 p1 p2 hRR
  obtain ⟨p0, p1, p2⟩ := (HR.out.below G.out).pt.all
  rw [← HN.out] at p2
  go_wp2_with fail
  refine (C2.out _ G.out).mono ?_
  rintro e w5 ⟨rfl, hB5⟩
  replace G := hidb (Gr.step G.out hB5.out)
  replace HRR := hidb (HRR.out.below hB5.out)
  clear hB5 p0 p1 p2
  go_wp2_with fail
  refine (CW.out _ G.out).mono ?_
  rintro e w7 ⟨rfl, hB7⟩
  replace G := hidb (Gr.step G.out hB7.out)
  replace HRR := hidb (HRR.out.below hB7.out)
  clear hB7
  go_wp2_with fail
  refine (CF.out _ G.out).mono ?_
  rintro e w8 ⟨FI, TO, bs2, vo2, Lf, Lt, Ls, rfl, hFI, hTO, hvo2, -, hRs, hB8⟩
  replace G := hidb (Gr.step G.out hB8.out)
  replace HRR := hidb (HRR.out.below hB8.out)
  have HLf : Hid (Lf.length = l.length ∧ ∀ i, i < l.length → gl Lf i = fih m n l i) := by
    rw [HN.out] at hRs
    exact ⟨hRs.ll.1, fun i hi => hRs.f i hi⟩
  obtain ⟨ov, oc2, hvo3⟩ := own_shape1' hvo2
  obtain ⟨oN, hoN⟩ : ∃ z, z = (flo m n l N).ord.length := ⟨_, rfl⟩
  rw [← hoN] at hvo3
  subst hvo3
  have HF0 := hidb (show LF w (w8.alloc (.cells #[.slice (some ⟨FI, 0, none⟩) N N, .slice (some ⟨TO, 0, none⟩) N N, .slice ov oN oc2] 38)) pb po m n b o cap base w8.heap.size FI FI l Lf Lf v (.slice (some ⟨TO, 0, none⟩) N N) (.slice ov oN oc2) vs from by
    have hB : Below w8.heap.size w8 (w8.alloc (.cells #[.slice (some ⟨FI, 0, none⟩) N N, .slice (some ⟨TO, 0, none⟩) N N, .slice ov oN oc2] 38)) := ((Gr.refl w8).alloc _).out
    refine ⟨Gr.step G.out hB, HRR.out.below hB, At.below hB hFI, ?_, At.below hB hFI⟩
    rw [← HN.out]
    exact At.new3 w8 _ _ _ _)
  clear hB8 hTO hvo2 hRs HRR hFI hoN
  go_upto_region 11 with fail
  generalize w8.alloc (.cells #[.slice (some ⟨FI, 0, none⟩) N N, .slice (some ⟨TO, 0, none⟩) N N, .slice ov oN oc2] 38) = w9 at *
  generalize w8.heap.size = FB at *
  obtain ⟨f0, f1, f2⟩ := HF0.out.f.c3
  rw [← HN.out] at f0
  go_wp2_with fail
  refine (CL.out _ HF0.out.gr _ _ HF0.out.fi (by rw [HN.out]; exact HLf.out)).mono ?_
  rintro e w10 ⟨B, rfl, L, hL, hLI, hSt, -, hB10⟩
  rw [HN.out] at hSt
  have HF : Hid (LF w w10 pb po m n b o cap base FB FI B l L Lf v (.slice (some ⟨TO, 0, none⟩) N N) (.slice ov oN oc2) vs) := by
    have h := HF0.out.below hB10.out
    exact ⟨h.gr, h.rr, hL, h.f, h.fi⟩
  have HNm := hidb (fun (k : Nat) (hk : k < l.length) (r : Nat) => name_iff HOk.out hLI hSt hk r)
  have HLl := hidb hLI.len
  clear hB10 hL hLI hSt f0 f1 f2 HF0 G
  obtain ⟨adv, gv2, capv, rfl, hvix, hvc⟩ := HF.out.rr.shape
  have HVx := hidb hvix
  have HVn : Hid (vs.length = (lkL m n l).length) := HF.out.rr.n
  have HVc := hidb (fun (k : Nat) (hk : k < vs.length) (W : World) (hG : Gr w10 W) => (hG.out.cell (p := ⟨gv2, k, none⟩) (hvc k hk).1).trans (hvc k hk).2)
  have HVi := hidb (fun (k : Nat) (hk : k < vs.length) => own_islb (HF.out.rr.i k hk))
  obtain ⟨V, hV⟩ : ∃ V, V = vs.length := ⟨_, rfl⟩
  rw [← hV] at HVx HVn HVc HVi ⊢
  have HV : Hid (V ≤ 80) := by show _ ≤ _; rw [HVn.out]; have := lkL_len m n l; have := HN.out; have := HL.out; omega
  clear hvix hvc hV
  go_wp2
  go_loopw [15, 16, 17] (fun s kn t wr => ∃ (k i : Nat) (kb : Bool), i ≤ N ∧ s = .int .i64 (k : Int) ∧ kn = .bool kb ∧ t = .int .i64 (i : Int) ∧ Hid (k = (fsL m n l i).length ∧ kb = decide (ot ∈ (lkL m n l).take k)) ∧ Hid (Gr w10 wr)) (fun _ _ t _ => N - (intOf t).toNat)
  case atStart => exact ⟨0, 0, false, Nat.zero_le _, rfl, rfl, rfl, hidb ⟨rfl, by simp⟩, hidb (Gr.refl w10)⟩
  case round =>
    obtain ⟨k, i, kb, hi, rfl, rfl, rfl, E, G⟩ := hrel
    by_cases h1 : ¬ i < N
    · have h1' : ¬ (i : Int) < (N : Int) := by omega
      have hiN : i = N := by omega
      have HE : Hid (k = V ∧ kb = decide (ot ∈ lkL m n l)) := by
        have e := E.out
        rw [hiN, HN.out, fsL_end] at e
        refine ⟨by rw [HVn.out]; exact e.1, ?_⟩
        rw [e.2, e.1, List.take_length]
      have HW := hidb (Gr.step HF.out.gr G.out.out)
      obtain rfl := HE.out.1
      clear h1 hiN E
      cases kb
      · obtain ⟨rfl, rfl, rfl⟩ := HEv.out (fun hm => by have := HE.out.2; rw [decide_eq_true hm] at this; cases this)
        go_wp2_with fail
        refine (CE.out _ HW.out).mono ?_
        rintro e w12 ⟨rfl, hB12⟩
        have G2 := hidb (Gr.step HW.out hB12)
        clear hB12
        go_wp2
        go_ret
        exact ⟨by simp, G2.out⟩
      · go_wp2
        go_ret
        exact ⟨rfl, HW.out⟩
    · have h1' : (i : Int) < (N : Int) := by omega
      have hiN : i < N := by omega
      have HiN := hidb hiN
      have hil : i < l.length := by rw [← HN.out]; exact hiN
      have e1 : IntKind.i64.wrap ((i : Int) + 1) = ((i + 1 : Nat) : Int) := by rw [show (i : Int) + 1 = ((i + 1 : Nat) : Int) by omega]; exact wrap_in (by have := HL.out; omega) (by have := HL.out; omega)
      have ixi := iindex B 0 N N i hiN
      rw [Nat.zero_add] at ixi
      have ci := ((At.below G.out.out HF.out.n).get (j := i) (by rw [HLl.out]; exact hil)).1
      rw [gl_get (by rw [HLl.out]; exact hil)] at ci
      have hnm := HNm.out i hil i
      obtain ⟨y, hy⟩ : ∃ y, y = gl L i := ⟨_, rfl⟩
      rw [← hy] at ci hnm
      by_cases hyi : ¬ y = (i : Int)
      · have HS : Hid (fsL m n l (i + 1) = fsL m n l i) := by show _ = _; rw [fsL_succ, if_neg (fun h => hyi (hnm.2 h)), List.append_nil]
        have hyi' : (y == (i : Int)) = false := by simp [hyi]
        clear h1 hy hnm hil hiN
        go_wp2
        go_roundw
        case rel => exact ⟨k, i + 1, kb, HiN.out, rfl, rfl, by go_num, by rw [HS.out]; exact E, G⟩
        case measure => have := HiN.out; simp [intOf]; omega
      · have hyi2 : y = (i : Int) := Classical.not_not.1 hyi
        have hw := hnm.1 hyi2
        have HS : Hid (fsL m n l (i + 1) = fsL m n l i ++ [i]) := by show _ = _; rw [fsL_succ, if_pos hw]
        have HG := hidb (fsL_get hil hw)
        clear hnm h1 hil hyi hw
        clear hy
        subst hyi2
        go_wp2
        obtain ⟨bs, hbs⟩ : ∃ z, z = wr.heap.size := ⟨_, rfl⟩
        have E5 : Hid (LQ w10 wr bs 0 (.slice none 0 0) (wnL m n l i 0)) := ⟨G.out, World.ownsRow_nil _ _ _ _, by rw [hbs]; exact G.out.out.size, by rw [hbs]; exact Nat.le_refl _⟩
        clear hbs ci G
        go_loopw [18, 19, 20, 21] (fun u mo su t wr2 => ∃ (j q : Nat), j ≤ N ∧ q = (wnL m n l i j).length ∧ t = .int .i64 (j : Int) ∧ mo = .int .i64 (dX m n l (on (wnL m n l i j))) ∧ su = .int .i64 (dT m n l (on (wnL m n l i j))) ∧ Hid (LQ w10 wr2 bs q u (wnL m n l i j))) (fun _ _ _ t _ => N - (intOf t).toNat)
        case atStart => exact ⟨0, 0, Nat.zero_le _, rfl, rfl, rfl, rfl, E5⟩
        case round =>
          clear E5
          obtain ⟨j, q, hj, hq, rfl, rfl, rfl, Q⟩ := hrel
          obtain ⟨ad1, cap1, rfl⟩ := own_shape1' Q.out.r
          by_cases h2 : ¬ j < N
          · have h2' : ¬ (j : Int) < (N : Int) := by omega
            have hjN : j = N := by omega
            rw [hjN] at Q hq ⊢
            obtain ⟨ad2, b2, cap2, hvv, hS, -⟩ := own_islb Q.out.r
            have hvq : ad1 = ad2 ∧ q = (on (wnL m n l i N)).length ∧ cap1 = cap2 := by simpa using hvv
            obtain ⟨rfl, hqo, rfl⟩ := hvq
            have hg := HG.out
            rw [← HN.out] at hg
            have hkV : k < V := by rw [HVn.out, E.out.1]; exact hg.1
            have hkV' : (k : Int) < (V : Int) := by omega
            have ixk := HVx.out k hkV
            obtain ⟨ad3, b3, cap3, hvx, hisl, -⟩ := HVi.out k hkV
            have cx := HVc.out k hkV wr Q.out.gr
            have hlx : lx (lkL m n l) k = on (wnL m n l i N) := by rw [E.out.1]; exact hg.2.1
            rw [hlx] at hvx hisl
            rw [hvx] at cx
            have hql : (on (wnL m n l i N)).length ≤ 20000 := by rw [← hqo, hq]; have := wnL_len m n l i N; have := HL.out; omega
            have HSa := hidb (sameInts_eq hql wr (hisl.below Q.out.gr.out) hS)
            have HD := hidb (fun W1 (hG : Gr wr W1) => C3.out W1 (Gr.step (Gr.step HF.out.gr Q.out.gr.out) hG.out) (hS.below hG.out) hg.2.2.1)
            have HSb := hidb (fun W1 (hG : Gr wr W1) => sameInts_dec (by have := HM.out; omega) hql W1 (HOt.out.below (Gr.step (Gr.step HF.out.gr Q.out.gr.out) hG.out).out) (hS.below hG.out))
            have HQg := hidb Q.out.gr
            have HRw := hidb (fun W1 (hG : Gr wr W1) => (HR.out.below (Gr.step (Gr.step HF.out.gr Q.out.gr.out) hG.out)).pt.all)
            rw [show dpX m n l (on (wnL m n l i N)) (on (wnL m n l i N)).length = dX m n l (on (wnL m n l i N)) from rfl, show dpT m n l (on (wnL m n l i N)) (on (wnL m n l i N)).length = dT m n l (on (wnL m n l i N)) from rfl] at HD
            have HT : Hid (decide (ot ∈ (lkL m n l).take (k + 1)) = (kb || decide (ot = on (wnL m n l i N)))) := by
              show _ = _
              rw [E.out.2]
              have := hg.2.2.2
              rw [← E.out.1] at this
              rw [this]
              simp
            rw [← hqo] at HSa HD HSb cx
            rw [← HK.out] at HSb
            have e3 : IntKind.i64.wrap ((k : Int) + 1) = ((k + 1 : Nat) : Int) := by rw [show (k : Int) + 1 = ((k + 1 : Nat) : Int) by omega]; exact wrap_in (by have := HV.out; omega) (by have := HV.out; omega)
            have HKl : Hid (k + 1 = (fsL m n l (i + 1)).length) := by show _ = _; rw [HS.out, List.length_append, E.out.1]; rfl
            generalize dX m n l (on (wnL m n l i N)) = mx at *
            generalize dT m n l (on (wnL m n l i N)) = sx at *
            generalize decide (ot = on (wnL m n l i N)) = bb at *
            clear h2 hjN hvv hS hvx hisl hlx hql hg Q hq hqo hkV
            go_wp2_with fail
            refine HSa.out.mono ?_
            rintro e w12 ⟨rfl, hB12⟩
            have G2 := hidb hB12
            clear hB12 cx HSa
            obtain ⟨p0, p1, p2⟩ := HRw.out _ G2.out
            rw [← HN.out] at p2
            go_wp2_with fail
            refine (HD.out _ G2.out).mono ?_
            rintro e w13 ⟨rfl, hB13⟩
            replace G2 := hidb (Gr.step G2.out hB13.out)
            clear hB13 p0 p1 p2 HD HRw
            go_wp2_with fail
            refine (HSb.out _ G2.out).mono ?_
            rintro e w14 ⟨rfl, hB14⟩
            replace G2 := hidb (Gr.step G2.out hB14.out)
            clear hB14 HSb
            cases kb
            all_goals
              go_wp2
              go_roundw
              case rel => exact ⟨k + 1, i + 1, _, HiN.out, by go_num, rfl, by go_num, hidb ⟨HKl.out, by rw [HT.out]; simp⟩, hidb (Gr.step HQg.out G2.out.out)⟩
              case measure => have := HiN.out; simp [intOf]; omega
          · have h2' : (j : Int) < (N : Int) := by omega
            have hjN : j < N := by omega
            have HjN := hidb hjN
            have hjl : j < l.length := by rw [← HN.out]; exact hjN
            have e2 : IntKind.i64.wrap ((j : Int) + 1) = ((j + 1 : Nat) : Int) := by rw [show (j : Int) + 1 = ((j + 1 : Nat) : Int) by omega]; exact wrap_in (by have := HL.out; omega) (by have := HL.out; omega)
            have ixj := iindex B 0 N N j hjN
            rw [Nat.zero_add] at ixj
            have cj := ((At.below Q.out.gr.out HF.out.n).get (j := j) (by rw [HLl.out]; exact hjl)).1
            rw [gl_get (by rw [HLl.out]; exact hjl)] at cj
            have hnm := HNm.out j hjl i
            obtain ⟨y, hy⟩ : ∃ y, y = gl L j := ⟨_, rfl⟩
            rw [← hy] at cj hnm
            by_cases hyi : ¬ y = (i : Int)
            · have HS2 : Hid (wnL m n l i (j + 1) = wnL m n l i j) := by show _ = _; rw [wnL_succ, if_neg (fun h => hyi (hnm.2 h)), List.append_nil]
              have hyi' : (y == (i : Int)) = false := by simp [hyi]
              have HQ := hidb hq
              clear h2 hy hnm hjl hjN hq
              go_wp2
              go_roundw
              case rel => exact ⟨j + 1, q, HjN.out, by rw [HS2.out]; exact HQ.out, by go_num, by rw [HS2.out], by rw [HS2.out], by rw [HS2.out]; exact Q⟩
              case measure => have := HjN.out; simp [intOf]; omega
            · have hyi2 : y = (i : Int) := Classical.not_not.1 hyi
              have hw := hnm.1 hyi2
              have hs2 : wnL m n l i (j + 1) = wnL m n l i j ++ [j] := by rw [wnL_succ, if_pos hw]
              have hon : on (wnL m n l i (j + 1)) = on (wnL m n l i j) ++ [(j : Int)] := by rw [hs2]; simp [on]
              have hb1 := dXT_bd m n l HOk.out (r := i) (j := j) (Nat.le_of_lt hjl)
              have hb2 := dXT_bd m n l HOk.out (r := i) (j := j + 1) hjl
              have hx1 := dX_snoc m n l (on (wnL m n l i j)) j
              have hx2 := dT_snoc m n l (on (wnL m n l i j)) j
              rw [← hon] at hx1 hx2
              have hx3 := dpK_all (m := m) (n := n) hjl
              have hfi := HLf.out.2 j hjl
              have HS2 := hidb hs2
              have HQ : Hid (q = (wnL m n l i j).length ∧ q ≤ 20000) := ⟨hq, by have := wnL_len m n l i j; have := HL.out; omega⟩
              have HFc := hidb (fun W1 (hG : Gr w10 W1) => ((HF.out.below hG.out).f.c3).1)
              have HFd := hidb (fun W1 (hG : Gr w10 W1) => ((HF.out.below hG.out).fi.get (j := j) (by rw [HLf.out.1]; exact hjl)).1)
              have HRc := hidb (fun W1 (hG : Gr w10 W1) => (HRs.out.below (Gr.step HF.out.gr hG.out).out).get hjl)
              have HRp := hidb (fun W1 (hG : Gr w10 W1) => (HR.out.below (Gr.step HF.out.gr hG.out)).pt.all)
              rw [gl_get (by rw [HLf.out.1]; exact hjl), hfi] at HFd
              rw [← HN.out] at HFc HRp
              obtain ⟨z, hz⟩ : ∃ z, z = gl (dpK m n l l.length) j := ⟨_, rfl⟩
              rw [← hz] at hx1 hx2 hx3
              obtain ⟨mx, hmx⟩ : ∃ z, z = dX m n l (on (wnL m n l i j)) := ⟨_, rfl⟩
              obtain ⟨sx, hsx⟩ : ∃ z, z = dT m n l (on (wnL m n l i j)) := ⟨_, rfl⟩
              obtain ⟨mx', hmx'⟩ : ∃ z, z = dX m n l (on (wnL m n l i (j + 1))) := ⟨_, rfl⟩
              obtain ⟨sx', hsx'⟩ : ∃ z, z = dT m n l (on (wnL m n l i (j + 1))) := ⟨_, rfl⟩
              rw [← hmx, ← hmx'] at hx1
              rw [← hsx, ← hsx'] at hx2
              rw [← hmx, ← hsx] at hb1
              rw [← hmx', ← hsx'] at hb2
              rw [← hmx, ← hsx]
              have HX' := hidb (show mx' = dX m n l (on (wnL m n l i (j + 1))) ∧ sx' = dT m n l (on (wnL m n l i (j + 1))) from ⟨hmx', hsx'⟩)
              obtain ⟨fj, hfj⟩ : ∃ z, z = fih m n l j := ⟨_, rfl⟩
              obtain ⟨aj, haj⟩ : ∃ z, z = gl l j := ⟨_, rfl⟩
              rw [← hfj] at HFd hx3
              rw [← haj] at HRc hx3
              have e4 : IntKind.i64.wrap (fj - aj) = z := by rw [← hx3]; exact wrap_in (by omega) (by omega)
              have e5 : IntKind.i64.wrap (sx + z) = sx' := by rw [hx2]; exact wrap_in (by omega) (by omega)
              have hmz : mx' = if mx < z then z else mx := by rw [hx1]; split <;> omega
              have ixf := iindex FI 0 N N j hjN
              rw [Nat.zero_add] at ixf
              have ixa := iindex b o N cap j hjN
              clear h2 hy hnm hjl hjN hq hw hyi hs2 hon hb1 hb2 hx1 hx2 hx3 hfi hz hmx hsx hmx' hsx' hfj haj
              subst hyi2
              go_wp2_with (at_builtin; refine wpList_iw _ bs (.slice ad1 q cap1) (on (wnL m n l i j)) (j : Int) q wr.heap.size _ _ rfl rfl rfl rfl HQ.out.2 (Q.out.r.alloc _) (At.at1 rfl _ _) (by have := Q.out.b.2; simp; omega) (wr.heap.size + 1) (by simp) ?_; intro g2 cap3 w3 hown hgrow)
              have HE3 := hidb (Q.out.app hown.out hgrow.out)
              rw [← HS2.out] at HE3
              clear hown hgrow Q cj
              have f0 := HFc.out _ HE3.out.gr
              have f1 := HFd.out _ HE3.out.gr
              have a1 := HRc.out _ HE3.out.gr
              obtain ⟨p0, p1, p2⟩ := HRp.out _ HE3.out.gr
              go_upto_region 26 with fail
              go_quiet (fail)
              by_cases hzm : mx < z
              · rw [if_pos hzm] at hmz
                go_wp2
                go_roundw
                case rel => exact ⟨j + 1, q + 1, HjN.out, by rw [HS2.out, List.length_append, ← HQ.out.1]; rfl, by go_num, by rw [← HX'.out.1, hmz], by rw [← HX'.out.2], hidb (HE3.out.drewN _)⟩
                case measure => have := HjN.out; simp [intOf]; omega
              · rw [if_neg hzm] at hmz
                go_wp2
                go_roundw
                case rel => exact ⟨j + 1, q + 1, HjN.out, by rw [HS2.out, List.length_append, ← HQ.out.1]; rfl, by go_num, by rw [← HX'.out.1, hmz], by rw [← HX'.out.2], hidb (HE3.out.drewN _)⟩
                case measure => have := HjN.out; simp [intOf]; omega
end Go.Proofs.YtmjlaonlhabblaaDoor
namespace Go.Proofs.YtmjlaonlhabblaaDoor
open Go.RowKit

theorem basinLakes_law (g : Nat → Addr) (a : Option Addr) (v : Value) (w : World) (hl : Laid w g) (ha : RArg w a) (hv0 : IArg w v) : Calls Tryd.prog 4 #[.pointer a, v] w fun e w' => e = .returned (.bool true) ∧ Gr w w' := by
  obtain ⟨s, h1, h2⟩ := small4_arg ha
  obtain ⟨ra, rb, ro, rcap, r, rfl, hI, -⟩ := hv0
  cases s with
  | false => exact lakesL_no g _ _ w hl h1
  | true =>
    by_cases hM : 200 < r.length
    · exact lakesL_long g _ ra r.length rcap hM w hl h1
    · obtain ⟨pb, po, W, H, sd, b, o, cap, l, rfl, hr, hc, ll⟩ := h2 rfl
      by_cases hv : vcode W H l = 0
      · obtain ⟨m, n, rfl, rfl, ok⟩ := ok_of hv
        have hN := Nat.mul_le_mul ok.m1 ok.n1
        have h0 : ¬ l.length = 0 := by rw [ok.len]; omega
        obtain ⟨rfl, hRs⟩ := hc h0
        exact lakesL_B g (by omega) w hl hr hRs ok ll hv hI
      · exact lakesL_A g ra r.length rcap (by omega) w hl hr ll hv
end Go.Proofs.YtmjlaonlhabblaaDoor
