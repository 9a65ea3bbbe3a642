/-
  survey.Survey's tree.
-/
import Derived.Test.YtecmkjefoppbiaaDoorQSvI
import Derived.Deep.DrawnRows
namespace Go.Proofs.YtecmkjefoppbiaaDoor
open Go.RowKit
attribute [local go_sem ↓] Go.wp_at_zero Go.wp_at_succ

theorem made_runI (K : Nat) (hK : K ≤ 20000) : ∃ CS : Array Value, CS.toList = ir (List.replicate K 0) ∧ ∀ w, (Instr.makeSlice 28 (.int .i64 (K : Int)) (.int .i64 (K : Int))).run Tryd.prog w = .ok (.slice (some ⟨w.heap.size, 0, none⟩) K K) (w.alloc (.cells CS 3)) := by
  obtain ⟨i0, hi, hz0, hz1, hz2⟩ := info_parts infoN
  refine ⟨madeCells #[Value.int .i64 0] K, by rw [toList_madeCells_one]; simp [ir], fun w => ?_⟩
  have := run_makeSlice (P := Tryd.prog) w 28 3 i0 (.int .i64 0) undI hi hz0 .i64 .i64 (K : Int) (K : Int) (by omega) (Int.le_refl _) (by rw [hz1]; omega) (by rw [hz2]; omega) (by omega)
  rw [hz1, Int.toNat_natCast, Nat.mul_one] at this
  exact this
theorem At.newArr (W : World) (cs : Array Value) (t : Nat) : At (W.alloc (.cells cs t)) W.heap.size cs.toList := by
  have := At.newRow W cs.toList t
  simpa using this
theorem At.nyRow (W : World) (o : Obj) (cs : Array Value) (t : Nat) : At ((W.alloc o).alloc (.cells cs t)) (W.heap.size + 1) cs.toList := by
  have := At.newRow (W.alloc o) cs.toList t
  simpa using this
theorem indexI (b n cap k : Nat) (hk : k < n) (w : World) : (Instr.indexAt 28 (.slice (some ⟨b, 0, none⟩) n cap) (.int .i64 k)).run Tryd.prog w = .ok (.pointer (some ⟨b, k, none⟩)) w := by
  have := iindex b 0 n cap k hk w
  rwa [Nat.zero_add] at this
/-- So far each mark of a lesser number was reached. -/
def upT (E : List Ed) (M i : Nat) : Prop := ∀ j, j < i → j < (srE E M j).ord.length
theorem upT_le {E : List Ed} {M : Nat} : ∀ {i : Nat}, upT E M i → i ≤ (srE E M i).ord.length
  | 0, _ => Nat.zero_le _
  | i + 1, h => by
    have h1 := h i (by omega)
    have h2 := (sr_pre E M i).length_le
    omega
theorem sr_next {E : List Ed} {M i : Nat} (h : i < (srE E M i).ord.length) : srE E M (i + 1) = scE E (oX (srE E M i) i) (srE E M i) E.length := by rw [srE, if_pos h]
section
variable {l : List Sn} {M : Nat}
set_option maxRecDepth 4000 in
set_option maxHeartbeats 8000000 in
theorem stree_any {ad : Option Addr} {b o cap : Nat} (w : World) (h : SeL 32 w ad b o cap l) (hM : 1 ≤ M ∧ M ≤ 12) (hl : l.length ≤ 60) (hF : FT M l) (B : Int) : Calls Tryd.prog 14 #[svV M B (.slice ad l.length cap)] w fun e w' => (alE (edL l) M ∧ ∃ WB, e = .returned (.tuple #[.slice (some ⟨WB, 0, none⟩) M M, .bool true]) ∧ At w' WB (ir (srE (edL l) M M).wy) ∧ w.heap.size ≤ WB ∧ Gr w w') ∨ (¬ alE (edL l) M ∧ e = .returned (.tuple #[.slice none 0 0, .bool false]) ∧ Gr w w') := by
  have HF := hidb hF
  have HM := hidb hM
  have HLn := hidb hl
  have HE : Hid (okE (edL l) M) := hF.ok
  have HAl := hidb (al_iff hF.ok (by omega : 0 < M))
  have HSr := hidb (fun i => sr_ok hF.ok (by omega : 0 < M) i)
  have HIx := hidb h.ix
  have HRow := hidb h
  obtain ⟨CS, hCS, mk⟩ := made_runI M (by omega)
  obtain ⟨n, hn⟩ : ∃ n, n = l.length := ⟨_, rfl⟩
  have HNl := hidb hn
  rw [← hn] at HLn HIx ⊢
  clear hn
  have PX : Hid (At (w.alloc (.cells #[.int .i64 (M : Int), .int .i64 B, .slice ad n cap] 34)) w.heap.size [.int .i64 (M : Int), .int .i64 B, .slice ad n cap]) := At.new3 _ _ _ _ _
  unfold svV
  generalize hW0 : w.alloc (.cells #[.int .i64 (M : Int), .int .i64 B, .slice ad n cap] 34) = W0 at PX
  have G0 : Hid (Gr w W0) := by rw [← hW0]; exact (Gr.refl w).alloc _
  have hSz : W0.heap.size = w.heap.size + 1 := by rw [← hW0]; simp
  have AW := At.newArr W0 CS 3
  obtain ⟨z0, z1, z2⟩ := PX.out.c3
  go_enter Tryd.func14, Tryd.ntmps14
  go_upto_region 1 with fail
  (try rw [hW0])
  go_upto_region 2 with fail
  obtain ⟨WB, hWB⟩ : ∃ z, z = w.heap.size + 1 := ⟨_, rfl⟩
  rw [hSz, ← hWB] at AW
  rw [← hWB]
  rw [hCS] at AW
  have HW1 : Hid (At (W0.alloc (.cells CS 3)) WB (ir (List.replicate M 0)) ∧ Gr W0 (W0.alloc (.cells CS 3)) ∧ (W0.alloc (.cells CS 3)).heap.size = WB + 1) := ⟨AW, (Gr.refl _).alloc _, by rw [hWB, ← hSz]; simp⟩
  have HWs : Hid (W0.heap.size = WB) := by show _ = _; rw [hSz, hWB]
  have HWb : Hid (w.heap.size ≤ WB) := by show _ ≤ _; omega
  clear AW hWB z0 z1 z2
  generalize W0.alloc (.cells CS 3) = W1 at *
  obtain ⟨base, hb⟩ : ∃ z, z = W1.heap.size := ⟨_, rfl⟩
  have P1 : Hid (∀ W', Gr W0 W' → W'.cell? ⟨w.heap.size, 0, none⟩ = some (.int .i64 (M : Int)) ∧ W'.cell? ⟨w.heap.size, 1, none⟩ = some (.int .i64 B) ∧ W'.cell? ⟨w.heap.size, 2, none⟩ = some (.slice ad n cap)) := fun W' hG => (At.below hG.out PX.out).c3
  go_upto_region 3 with fail
  rw [← hb]
  have HLo : Hid (W1.ownsRow base 3 1 (.slice none 0 0) 0 (ir [])) := World.ownsRow_nil _ _ _ _
  have E0 : Hid (TM w (W1.alloc (.cells #[.int .i64 0] 3)) WB base base 1 (srE (edL l) M 0) ∧ Gr W0 (W1.alloc (.cells #[.int .i64 0] 3))) :=
    ⟨⟨HW1.out.1.alloc _, own_lone hb _ _, (Gr.step G0.out HW1.out.2.1.out).alloc _, HWb.out, by have := HW1.out.2.2; omega, by simp; omega⟩, HW1.out.2.1.alloc _⟩
  clear HLo hb
  generalize W1.alloc (.cells #[.int .i64 0] 3) = W2 at *
  obtain ⟨z0, z1, z2⟩ := P1.out _ E0.out.2
  go_wp2
  clear z0 z1 z2
  go_loopw [2, 4, 16] (fun v2 v x wr => ∃ (i g cp q : Nat), v2 = .slice (some ⟨WB, 0, none⟩) M M ∧ i ≤ M ∧ q = (srE (edL l) M i).ord.length ∧ v = .slice (some ⟨g, 0, none⟩) q cp ∧ x = .int .i64 (i : Int) ∧ Hid (TM w wr WB base g cp (srE (edL l) M i) ∧ Gr W0 wr ∧ upT (edL l) M i)) (fun _ _ x _ => M - (intOf x).toNat)
  case atStart => exact ⟨0, base, 1, 1, rfl, by omega, rfl, rfl, rfl, hidb ⟨E0.out.1, E0.out.2, fun j hj => by omega⟩⟩
  case round =>
    clear E0
    obtain ⟨i, g, cp, q, rfl, hi, hq, rfl, rfl, E⟩ := hrel
    by_cases h1 : ¬ i < M
    · have h1' : ¬ (i : Int) < (M : Int) := by omega
      obtain rfl : i = M := by omega
      have HA := hidb (HAl.out.2 E.out.2.2)
      have HZ : Hid (At wr WB (ir (srE (edL l) i i).wy) ∧ w.heap.size ≤ WB ∧ Gr w wr) := ⟨E.out.1.y, HWb.out, E.out.1.gr⟩
      clear h1 hq E
      go_wp2
      exact bodyPost_ret (v := .tuple #[.slice (some ⟨WB, 0, none⟩) i i, .bool true]) (by simp [results, Tryd.results14, go_sem]) rfl (.inl ⟨HA.out, WB, rfl, HZ.out⟩)
    · have h1' : (i : Int) < (M : Int) := by omega
      have H1 := hidb (show i < M by omega)
      have HQ := hidb hq
      by_cases h2 : i = q
      · have q2 : (((i : Nat) : Int) == ((q : Nat) : Int)) = true := by rw [h2]; simp
        have HA : Hid (¬ alE (edL l) M) := fun hA => by have := HAl.out.1 hA i H1.out; rw [← HQ.out] at this; omega
        have HZ := hidb E.out.1.gr
        clear h1 hq E h2
        go_wp2
        exact bodyPost_ret (v := .tuple #[.slice none 0 0, .bool false]) (by simp [results, Tryd.results14, go_sem]) rfl (.inr ⟨HA.out, rfl, HZ.out⟩)
      · have q2 : (((i : Nat) : Int) == ((q : Nat) : Int)) = false := by simp; omega
        have hiq : i < q := by have := upT_le E.out.2.2; omega
        have HI : Hid (i < (srE (edL l) M i).ord.length ∧ upT (edL l) M (i + 1)) := ⟨by rw [← hq]; exact hiq, fun j hj => by
          by_cases e : j = i
          · rw [e, ← hq]; exact hiq
          · exact E.out.2.2 j (by omega)⟩
        have HS : Hid (SrI (edL l) M (srE (edL l) M i)) := HSr.out i
        have HNx := hidb (sr_next HI.out.1)
        have E1 : Hid (TM w wr WB base g cp (scE (edL l) (oX (srE (edL l) M i) i) (srE (edL l) M i) 0) ∧ Gr W0 wr) := ⟨E.out.1, E.out.2.1⟩
        obtain ⟨s, hs⟩ : ∃ s, s = srE (edL l) M i := ⟨_, rfl⟩
        rw [← hs] at E1 HS HNx HI HQ
        rw [ed_len] at HNx
        obtain ⟨z0, z1, z2⟩ := P1.out _ E.out.2.1
        have e9 : IntKind.i64.wrap ((i : Int) + 1) = ((i + 1 : Nat) : Int) := by rw [show (i : Int) + 1 = ((i + 1 : Nat) : Int) by omega]; exact wr_in (by omega) (by have := HM.out; omega)
        have HG := hidb (show Gr w wr from E.out.1.gr)
        have H2 := hidb hiq
        clear h1 h2 hq E hs hiq
        go_wp2
        clear z0 z1 z2
        generalize hm : oX s i = m at E1 HNx
        go_loopw [4, 26] (fun v x wt => ∃ (k g cp q : Nat), k ≤ n ∧ q = (scE (edL l) m s k).ord.length ∧ v = .slice (some ⟨g, 0, none⟩) q cp ∧ x = .int .i64 (k : Int) ∧ Hid (TM w wt WB base g cp (scE (edL l) m s k) ∧ Gr W0 wt)) (fun _ x _ => n - (intOf x).toNat)
        case atStart => exact ⟨0, g, cp, q, by omega, HQ.out, rfl, rfl, E1⟩
        case round =>
          clear E1
          obtain ⟨k, g, cp, q, hk, hq, rfl, rfl, E⟩ := hrel
          by_cases h3 : ¬ k < n
          · have h3' : ¬ (k : Int) < (n : Int) := by omega
            obtain rfl : k = n := by omega
            have E5 : Hid (TM w wr WB base g cp (srE (edL l) M (i + 1)) ∧ Gr W0 wr ∧ upT (edL l) M (i + 1)) := by
              rw [HNx.out, ← HNl.out]; exact ⟨E.out.1, E.out.2, HI.out.2⟩
            have HQ5 : Hid (q = (srE (edL l) M (i + 1)).ord.length) := by show _ = _; rw [HNx.out, ← HNl.out]; exact hq
            clear h3 hq E
            go_wp2
            go_roundw
            case rel => exact ⟨i + 1, g, cp, q, rfl, H1.out, HQ5.out, rfl, by go_num, E5⟩
            case measure => have := H1.out; simp [intOf]; omega
          · have h3' : (k : Int) < (n : Int) := by omega
            have H3 := hidb (show k < n by omega)
            have hkl : k < l.length := by have := HNl.out; omega
            have e2 : IntKind.i64.wrap ((k : Int) + 1) = ((k + 1 : Nat) : Int) := by rw [show (k : Int) + 1 = ((k + 1 : Nat) : Int) by omega]; exact wr_in (by omega) (by have := HLn.out; omega)
            have ix := HIx.out k (by omega)
            have HSl := hidb (HRow.out.below (by have := E.out.1.gr; exact this.out))
            obtain ⟨⟨c0, c1, c2, c3⟩, -⟩ := HSl.out.row k hkl
            have HO := hidb (seenOut_any (snX l k) m ((k : Int) + 1) (by have := HLn.out; omega))
            have HSt := hidb (st_out HF.out hkl m (scE (edL l) m s k))
            have HSk : Hid (SrI (edL l) M (scE (edL l) m s k)) := by rw [← hm]; exact HS.out.sc HE.out HI.out.1 k (by rw [ed_len]; omega)
            have HOx : Hid (oX (scE (edL l) m s k) i = m ∧ i < (scE (edL l) m s k).ord.length) := by
              have := pre_oX (sc_pre (edL l) m s k) HI.out.1
              exact ⟨this.1.trans hm, this.2⟩
            have ixo := indexI g q cp i (by have := HOx.out.2; omega)
            have co := E.out.1.o HOx.out.2
            rw [HOx.out.1] at co
            have hScN : scE (edL l) m s (k + 1) = stE (edL l) m (scE (edL l) m s k) k := rfl
            have HScN := hidb hScN
            obtain ⟨nx, hnx⟩ : ∃ z, z = (outE (snX l k) m ((k : Int) + 1)).1 := ⟨_, rfl⟩
            obtain ⟨wy, hwy⟩ : ∃ z, z = (outE (snX l k) m ((k : Int) + 1)).2 := ⟨_, rfl⟩
            rw [← hnx, ← hwy] at HO HSt
            unfold snV at HO
            have HQk := hidb hq
            have HKl := hidb hkl
            generalize (snX l k).f = f at *
            generalize (snX l k).t = t at *
            generalize (snX l k).u = u at *
            generalize (snX l k).w = gw at *
            obtain ⟨s3, hs3⟩ : ∃ z, z = scE (edL l) m s (k + 1) := ⟨_, rfl⟩
            have HS4 := hidb hs3
            rw [← hs3] at HScN
            generalize scE (edL l) m s k = s2 at *
            have AR := hidb (At.new4 wr (.int .i64 f) (.int .i64 t) (.int .i64 u) (.int .i64 gw) 47)
            have HGa := hidb ((Gr.refl wr).alloc (.cells #[.int .i64 f, .int .i64 t, .int .i64 u, .int .i64 gw] 47))
            clear h3 hq hkl hScN hnx hwy hs3
            go_upto_region 11 with fail
            obtain ⟨NB, hNB⟩ : ∃ z, z = wr.heap.size := ⟨_, rfl⟩
            rw [← hNB] at AR ⊢
            generalize wr.alloc (.cells #[.int .i64 f, .int .i64 t, .int .i64 u, .int .i64 gw] 47) = W3 at *
            replace E := hidb (show TM w W3 WB base g cp s2 ∧ Gr W0 W3 from ⟨E.out.1.below HGa.out.out, Gr.step E.out.2 HGa.out.out⟩)
            have GG := hidb (Gr.refl W3)
            have HCx : Hid (∀ W', Gr W3 W' → (fun w' => (w'.cell? ⟨NB, 0, none⟩ = some (.int .i64 f) ∧ w'.cell? ⟨NB, 1, none⟩ = some (.int .i64 t) ∧ w'.cell? ⟨NB, 2, none⟩ = some (.int .i64 u) ∧ w'.cell? ⟨NB, 3, none⟩ = some (.int .i64 gw)) ∧ w'.cell? ⟨g, i, none⟩ = some (.int .i64 ((m : Nat) : Int))) W') := fun W' hG => ⟨(At.below hG.out AR.out).c4, by have := (E.out.1.below hG.out).o HOx.out.2; rwa [HOx.out.1] at this⟩
            clear HGa hNB c0 c1 c2 c3 ix
            refine wp_region_held_drew (S := (fun w' => (w'.cell? ⟨NB, 0, none⟩ = some (.int .i64 f) ∧ w'.cell? ⟨NB, 1, none⟩ = some (.int .i64 t) ∧ w'.cell? ⟨NB, 2, none⟩ = some (.int .i64 u) ∧ w'.cell? ⟨NB, 3, none⟩ = some (.int .i64 gw)) ∧ w'.cell? ⟨g, i, none⟩ = some (.int .i64 ((m : Nat) : Int)))) (by kernel_rfl) ?_ (fun hHeld => ?_)
            · (try dsimp only); exact HCx.out _ GG.out.drew
            replace GG := hidb GG.out.drew
            generalize W3.drew = V0 at *
            refine wpAnyH_take (i := 0) (v := ?vt1q0x4) rfl (by kernel_rfl) (by kernel_rfl) (by kernel_rfl) (fun _ _ _ h => h) (Or.inl ⟨by kernel_rfl, ?ht1q0x4⟩) (by assumption) ?rt1q0x4
            case ht1q0x4 => (intro w hSw; (try dsimp only at hSw); obtain ⟨⟨z0, z1, z2, z3⟩, z4⟩ := hSw; go_simp; try with_reducible rfl)
            (try simp only [Act.put, List.getElem_toArray, List.getElem_cons_zero, List.setIfInBounds_toArray, List.set_cons_zero, List.set_cons_succ])
            refine wpAnyH_take (i := 1) (v := ?vt1q1x7) rfl (by kernel_rfl) (by kernel_rfl) (by kernel_rfl) (fun _ _ _ h => h) (Or.inl ⟨by kernel_rfl, ?ht1q1x7⟩) (by assumption) ?rt1q1x7
            case ht1q1x7 => (intro w hSw; (try dsimp only at hSw); obtain ⟨⟨z0, z1, z2, z3⟩, z4⟩ := hSw; go_simp; try with_reducible rfl)
            (try simp only [Act.put, List.getElem_toArray, List.getElem_cons_zero, List.getElem_cons_succ, List.setIfInBounds_toArray, List.set_cons_zero, List.set_cons_succ])
            refine wpAnyH_take (i := 2) (v := ?vt1q2x10) rfl (by kernel_rfl) (by kernel_rfl) (by kernel_rfl) (fun _ _ _ h => h) (Or.inl ⟨by kernel_rfl, ?ht1q2x10⟩) (by assumption) ?rt1q2x10
            case ht1q2x10 => (intro w hSw; (try dsimp only at hSw); obtain ⟨⟨z0, z1, z2, z3⟩, z4⟩ := hSw; go_simp; try with_reducible rfl)
            (try simp only [Act.put, List.getElem_toArray, List.getElem_cons_zero, List.getElem_cons_succ, List.setIfInBounds_toArray, List.set_cons_zero, List.set_cons_succ])
            refine wpAnyH_take (i := 3) (v := ?vt1q3x13) rfl (by kernel_rfl) (by kernel_rfl) (by kernel_rfl) (fun _ _ _ h => h) (Or.inl ⟨by kernel_rfl, ?ht1q3x13⟩) (by assumption) ?rt1q3x13
            case ht1q3x13 => (intro w hSw; (try dsimp only at hSw); obtain ⟨⟨z0, z1, z2, z3⟩, z4⟩ := hSw; go_simp; try with_reducible rfl)
            (try simp only [Act.put, List.getElem_toArray, List.getElem_cons_zero, List.getElem_cons_succ, List.setIfInBounds_toArray, List.set_cons_zero, List.set_cons_succ])
            refine wpAnyH_take (i := 4) (v := ?vt1q4x16) rfl (by kernel_rfl) (by kernel_rfl) (by kernel_rfl) (fun _ _ _ h => h) (Or.inl ⟨by kernel_rfl, ?ht1q4x16⟩) (by assumption) ?rt1q4x16
            case ht1q4x16 => (intro w hSw; (try dsimp only at hSw); obtain ⟨⟨z0, z1, z2, z3⟩, z4⟩ := hSw; go_simp; try with_reducible rfl)
            (try simp only [Act.put, List.getElem_toArray, List.getElem_cons_zero, List.getElem_cons_succ, List.setIfInBounds_toArray, List.set_cons_zero, List.set_cons_succ])
            refine wpAnyH_take (i := 5) (v := ?vt1q5x19) rfl (by kernel_rfl) (by kernel_rfl) (by kernel_rfl) (fun _ _ _ h => h) (Or.inl ⟨by kernel_rfl, ?ht1q5x19⟩) (by assumption) ?rt1q5x19
            case ht1q5x19 => (intro w hSw; (try dsimp only at hSw); obtain ⟨⟨z0, z1, z2, z3⟩, z4⟩ := hSw; go_simp; try with_reducible rfl)
            (try simp only [Act.put, List.getElem_toArray, List.getElem_cons_zero, List.getElem_cons_succ, List.setIfInBounds_toArray, List.set_cons_zero, List.set_cons_succ])
            refine wpAnyH_take (i := 6) (v := ?vt1q6x22) rfl (by kernel_rfl) (by kernel_rfl) (by kernel_rfl) (fun _ _ _ h => h) (Or.inl ⟨by kernel_rfl, ?ht1q6x22⟩) (by assumption) ?rt1q6x22
            case ht1q6x22 => (intro w hSw; (try dsimp only at hSw); obtain ⟨⟨z0, z1, z2, z3⟩, z4⟩ := hSw; go_simp; try with_reducible rfl)
            (try simp only [Act.put, List.getElem_toArray, List.getElem_cons_zero, List.getElem_cons_succ, List.setIfInBounds_toArray, List.set_cons_zero, List.set_cons_succ])
            refine wpAnyH_ready (rs := [7]) (by kernel_rfl) (by simp) ?_
            refine AllReadyH.cons rfl (fun K hK => ?_) AllReadyH.nil
            go_simp
            go_wp2_with (go_at_call 24; refine (HO.out _).mono ?_; rintro e V1 ⟨rfl, hB⟩)
            refine hK.out _ _ ?_ (fun hHeld => ?_)
            · (try dsimp only); exact HCx.out _ (Gr.step GG.out hB.out)
            clear hK K
            replace GG := hidb (Gr.step GG.out hB.out)
            clear hB
            refine wpAnyH_take (i := 8) (v := ?vt1q8x34) rfl (by kernel_rfl) (by kernel_rfl) (by kernel_rfl) (fun _ _ _ h => h) (Or.inl ⟨by kernel_rfl, ?ht1q8x34⟩) (by assumption) ?rt1q8x34
            case ht1q8x34 => (intro w hSw; (try dsimp only at hSw); obtain ⟨⟨z0, z1, z2, z3⟩, z4⟩ := hSw; go_simp; try with_reducible rfl)
            (try simp only [Act.put, List.getElem_toArray, List.getElem_cons_zero, List.getElem_cons_succ, List.setIfInBounds_toArray, List.set_cons_zero, List.set_cons_succ])
            refine wpAnyH_take (i := 9) (v := ?vt1q9x37) rfl (by kernel_rfl) (by kernel_rfl) (by kernel_rfl) (fun _ _ _ h => h) (Or.inl ⟨by kernel_rfl, ?ht1q9x37⟩) (by assumption) ?rt1q9x37
            case ht1q9x37 => (intro w hSw; (try dsimp only at hSw); obtain ⟨⟨z0, z1, z2, z3⟩, z4⟩ := hSw; go_simp; try with_reducible rfl)
            (try simp only [Act.put, List.getElem_toArray, List.getElem_cons_zero, List.getElem_cons_succ, List.setIfInBounds_toArray, List.set_cons_zero, List.set_cons_succ])
            refine wpAnyH_take (i := 10) (v := ?vt1q10x40) rfl (by kernel_rfl) (by kernel_rfl) (by kernel_rfl) (fun _ _ _ h => h) (Or.inl ⟨by kernel_rfl, ?ht1q10x40⟩) (by assumption) ?rt1q10x40
            case ht1q10x40 => (intro w hSw; (try dsimp only at hSw); obtain ⟨⟨z0, z1, z2, z3⟩, z4⟩ := hSw; go_simp; try with_reducible rfl)
            (try simp only [Act.put, List.getElem_toArray, List.getElem_cons_zero, List.getElem_cons_succ, List.setIfInBounds_toArray, List.set_cons_zero, List.set_cons_succ])
            refine wpAnyH_take (i := 11) (v := ?vt1q11x43) rfl (by kernel_rfl) (by kernel_rfl) (by kernel_rfl) (fun _ _ _ h => h) (Or.inl ⟨by kernel_rfl, ?ht1q11x43⟩) (by assumption) ?rt1q11x43
            case ht1q11x43 => (intro w hSw; (try dsimp only at hSw); obtain ⟨⟨z0, z1, z2, z3⟩, z4⟩ := hSw; go_simp; try with_reducible rfl)
            (try simp only [Act.put, List.getElem_toArray, List.getElem_cons_zero, List.getElem_cons_succ, List.setIfInBounds_toArray, List.set_cons_zero, List.set_cons_succ])
            refine wpAnyH_take (i := 12) (v := ?vt1q12x46) rfl (by kernel_rfl) (by kernel_rfl) (by kernel_rfl) (fun _ _ _ h => h) (Or.inl ⟨by kernel_rfl, ?ht1q12x46⟩) (by assumption) ?rt1q12x46
            case ht1q12x46 => (intro w hSw; (try dsimp only at hSw); obtain ⟨⟨z0, z1, z2, z3⟩, z4⟩ := hSw; go_simp; try with_reducible rfl)
            (try simp only [Act.put, List.getElem_toArray, List.getElem_cons_zero, List.getElem_cons_succ, List.setIfInBounds_toArray, List.set_cons_zero, List.set_cons_succ])
            refine wpAnyH_done (by kernel_rfl) ?_ _
            replace E := hidb (show TM w V1 WB base g cp s2 ∧ Gr W0 V1 from ⟨E.out.1.below GG.out.out, Gr.step E.out.2 GG.out.out⟩)
            clear GG HCx AR ixo co
            have HsI : Hid (s2.wy.length = M) := HSk.out.l
            by_cases h4 : nx = 0
            · have HS3 : Hid (s3 = s2) := by show _ = _; rw [HScN.out]; exact HSt.out.2.2 (.inl h4)
              have E6 : Hid (TM w V1 WB base g cp s3 ∧ Gr W0 V1 ∧ q = s3.ord.length) := ⟨by rw [HS3.out]; exact E.out.1, E.out.2, by rw [HS3.out]; exact HQk.out⟩
              clear HSt HScN
              subst h4
              go_wp2
              go_roundw
              case rel => exact ⟨k + 1, g, cp, q, H3.out, HS4.out ▸ E6.out.2.2, rfl, by go_num, HS4.out ▸ ⟨E6.out.1, E6.out.2.1⟩⟩
              case measure => have := H3.out; simp [intOf]; omega
            · obtain ⟨x, rfl⟩ : ∃ x : Nat, nx = (x : Int) := ⟨nx.toNat, by rcases HSt.out.1 with z | z <;> omega⟩
              have hxM : x < M := by rcases HSt.out.1 with z | z <;> omega
              rw [Int.toNat_natCast] at HSt
              have q4 : ¬ x = 0 := by omega
              have ixx := indexI WB M M x hxM
              obtain ⟨cx, fx⟩ := E.out.1.a (x := x) (by rw [HsI.out]; exact hxM)
              have HX := hidb hxM
              by_cases h5 : wX s2 x = 0
              · have HS3 : Hid (s3 = adE s2 x wy) := by show _ = _; rw [HScN.out]; exact HSt.out.2.1 h4 h5
                rw [h5] at cx
                have HQM : Hid (q ≤ 20000 ∧ base ≤ V1.heap.size) := ⟨by rw [HQk.out]; have := HSk.out.len; have := HM.out; omega, E.out.1.b.2.2⟩
                have E7 : Hid (TM w (V1.setCell ⟨WB, x, none⟩ (.int .i64 wy)) WB base g cp ⟨s2.wy.set x wy, s2.ord⟩ ∧ Gr W0 (V1.setCell ⟨WB, x, none⟩ (.int .i64 wy))) := ⟨E.out.1.put x wy, E.out.2.set (by have := HWs.out; omega) _ _⟩
                clear HSt HScN h4 h5 hxM E
                go_upto_region 14 with fail
                generalize V1.setCell ⟨WB, x, none⟩ (.int .i64 wy) = V2 at *
                have Hr : Hid (V2.ownsRow base 3 1 (.slice (some ⟨g, 0, none⟩) q cp) q (ir (on s2.ord)) ∧ base ≤ V2.heap.size) := ⟨by have := E7.out.1.r; rw [HQk.out]; exact this, E7.out.1.b.2.2⟩
                clear cx fx
                go_wp2_with (at_builtin; refine wpList_in _ base (.slice (some ⟨g, 0, none⟩) q cp) (on s2.ord) (x : Int) q V2.heap.size _ _ rfl rfl rfl rfl HQM.out.1 (own_kept Hr.out.1 ((Below.refl _ _).alloc (Nat.le_refl _) _)) (At.at1 rfl _ _) (by have := Hr.out.2; simp; omega) (V2.heap.size + 1) (by simp) ?_; intro g2 cap3 w3 hown hgrow)
                have E8 : Hid (TM w w3 WB base g2 cap3 s3 ∧ Gr W0 w3 ∧ q + 1 = s3.ord.length) := by
                  rw [HS3.out]
                  refine ⟨TM.app E7.out.1 (by rw [← HQk.out]; exact hown.out) (by rw [← HQk.out]; exact hgrow.out), Below.grown (E7.out.2.alloc _).out hgrow.out (by have := E7.out.2.out.size; simp; omega) (fun z ez => by cases ez; show W0.heap.size ≤ g; have h1 := (Hr.out.1.lt g rfl).1; have h2 := HWs.out; have h3 := E7.out.1.b.2.1; omega), ?_⟩
                  show q + 1 = (s2.ord ++ [x]).length
                  rw [List.length_append, HQk.out]
                  rfl
                clear hown hgrow E7 Hr
                go_wp2
                go_roundw
                case rel => exact ⟨k + 1, g2, cap3, q + 1, H3.out, HS4.out ▸ E8.out.2.2, rfl, by go_num, HS4.out ▸ ⟨E8.out.1, E8.out.2.1⟩⟩
                case measure => have := H3.out; simp [intOf]; omega
              · have HS3 : Hid (s3 = s2) := by show _ = _; rw [HScN.out]; exact HSt.out.2.2 (.inr h5)
                have q5 : (wX s2 x == 0) = false := by simpa using h5
                have E6 : Hid (TM w V1 WB base g cp s3 ∧ Gr W0 V1 ∧ q = s3.ord.length) := ⟨by rw [HS3.out]; exact E.out.1, E.out.2, by rw [HS3.out]; exact HQk.out⟩
                clear HSt HScN h4 h5 hxM HsI
                generalize wX s2 x = y at *
                go_wp2
                go_roundw
                case rel => exact ⟨k + 1, g, cp, q, H3.out, HS4.out ▸ E6.out.2.2, rfl, by go_num, HS4.out ▸ ⟨E6.out.1, E6.out.2.1⟩⟩
                case measure => have := H3.out; simp [intOf]; omega
end
end Go.Proofs.YtecmkjefoppbiaaDoor
