/-
  fix.added: the walk.; fix.normal.crossed.; fix.Solve.
-/
import Derived.Test.YtilgamhdcmkkeaaDoorQFxJ
import Derived.Deep.MidRow
namespace Go.Proofs.YtilgamhdcmkkeaaDoor
open Go.RowKit
attribute [local go_sem ↓] Go.wp_at_zero Go.wp_at_succ

theorem plusN {w : World} {m n : Bool} {u v : Value} {x y : Int} (h : Nm w m u x) (k : Nm w n v y) (lx : Bw x) (ly : Bw y) : Calls Tryd.prog 43 #[.agg #[.bool m, u], .agg #[.bool n, v]] w fun e w' => ∃ o t, e = .returned (.agg #[.bool o, t]) ∧ Nm w' o t (x + y) ∧ Below w.heap.size w w' ∧ w.heap.size < w'.heap.size := plus_nm lx ly h k
theorem At.range {W : World} {B : Nat} {l : List Value} (h : At W B l) : W.rangeAt B 0 l := fun j v hv => by
  obtain ⟨hj, rfl⟩ := List.getElem?_eq_some_iff.1 hv
  rw [Nat.zero_add]; exact (h.1 j hj).1
theorem At.there {W : World} {B n : Nat} {l : List Value} (h : At W B l) (hn : l.length = n) : W.there B 0 n := fun j hj => by
  have := h.1 j (by omega)
  rw [Nat.zero_add, this.1]
  exact ⟨rfl, this.2⟩
theorem Gr.setCs {w W : World} {c : Nat} (hc : w.heap.size ≤ c) : ∀ (vs : List Value) (o : Nat) {W : World}, Gr w W → Gr w (W.setCells c o vs)
  | [], _, _, h => h
  | v :: vs, o, _, h => by
    rw [World.setCells]
    exact Gr.setCs (W := W) hc vs (o + 1) (h.set hc o v)
theorem size_setCs {c : Nat} : ∀ (vs : List Value) (o : Nat) (W : World), (W.setCells c o vs).heap.size = W.heap.size
  | [], _, _ => rfl
  | v :: vs, o, W => by rw [World.setCells, size_setCs vs (o + 1)]; simp
theorem Pt.setCs {w : World} {v : Value} {l : List Nat} {B : Nat} {m : Bool} (h : Pt w v l) (hA : w.cell? ⟨B, 0, none⟩ = some (.bool m)) (vs : List Value) : Pt (w.setCells B 0 vs) v l := by
  rcases h with h | ⟨b, cap, h1, h2, h3, h4, h5⟩
  · exact .inl h
  · refine .inr ⟨b, cap, h1, h2, h3, fun i hi => ?_, by rw [size_setCs]; exact h5⟩
    have hne : b ≠ B := by
      intro e
      subst e
      have c' := h4 0 (by omega)
      rw [hA] at c'; cases c'
    rw [World.cell?_setCells_out B vs 0 w ⟨b, i, none⟩ (fun hb _ => absurd hb hne)]
    exact h4 i hi
theorem infoN : (Tryd.prog.info? 71).map (·.size) = some 18 := by kernel_rfl
theorem undN : ∃ d, Tryd.prog.underlying 71 = some d ∧ d.isRow = true := ⟨_, Tryd.underlying71, rfl⟩
/-- The sizes are slices. -/
theorem Mat.ones {W : World} {S : Nat} {ps : List (Bool × Value)} {zs : List Int} (h : Mat W S ps zs) : ∀ v ∈ pc ps, v.oneCell' = true := by
  intro v hv
  unfold pc at hv
  obtain ⟨p, hp, hv⟩ := List.mem_flatMap.1 hv
  obtain ⟨t, ht, rfl⟩ := List.mem_iff_getElem.1 hp
  have hz : t < zs.length := by rw [h.zl, ← h.pl]; exact ht
  obtain ⟨ad, L, cap, hf⟩ := (h.nm t ht hz).form
  simp only [List.mem_cons, List.not_mem_nil, or_false] at hv
  rcases hv with rfl | rfl
  · rfl
  · rw [hf]; rfl
abbrev zero9 : List (Bool × Value) := List.replicate 9 (false, .slice none 0 0)
theorem sms_nil : sms [] = List.replicate 9 0 := by decide
theorem At.row (W : World) (l : List Value) (t : Nat) : At (W.alloc (.cells l.toArray t)) W.heap.size l := by
  have hb : (W.alloc (.cells l.toArray t)).heap[W.heap.size]? = some (.cells l.toArray t) := heap_alloc_new W _
  refine ⟨fun i hi => ⟨?_, ?_⟩, by simp⟩
  · unfold World.cell?; rw [hb]; simp [hi]
  · unfold World.frozen?; rw [hb]; simp
theorem At.pairs (W : World) (t : Nat) : At (W.alloc (.cells #[.bool false, .slice none 0 0, .bool false, .slice none 0 0, .bool false, .slice none 0 0, .bool false, .slice none 0 0, .bool false, .slice none 0 0, .bool false, .slice none 0 0, .bool false, .slice none 0 0, .bool false, .slice none 0 0, .bool false, .slice none 0 0] t)) W.heap.size (pc zero9) := At.row W (pc zero9) t
theorem nm_zero (W : World) : Nm W false (.slice none 0 0) 0 := ⟨.inl ⟨rfl, WH.dn_zero⟩, by simp⟩
theorem Mat.zero {W : World} {S : Nat} (h : At W S (pc zero9)) : Mat W S zero9 (sms []) := by
  refine ⟨h, rfl, rfl, fun t a b => ?_⟩
  have e2 : (sms [])[t] = 0 := by simp [sms, sm]
  rw [e2]
  simpa using nm_zero W
set_option maxRecDepth 8000 in
set_option maxHeartbeats 16000000 in
theorem added_any (ad : Option Addr) (b cap : Nat) (l : List Rg) (w : World) (h : RSl 73 w ad b cap l) (ll : l.length ≤ 70) (hs : ∀ e ∈ l, Sme e) : Calls Tryd.prog 22 #[.slice ad l.length cap] w fun e w' => ∃ ps, e = .returned (.agg (pc ps).toArray) ∧ ps.length = 9 ∧ (∀ t (h : t < ps.length) (h' : t < (sms l).length), Nm w' ps[t].1 ps[t].2 (sms l)[t]) ∧ Gr w w' ∧ w.heap.size < w'.heap.size := by
  have HR := hidb h
  have HS := hidb hs
  clear h hs
  go_enter Tryd.func22, Tryd.ntmps22
  go_wp2
  have MA : Mat _ (w.heap.size + 1) zero9 (sms []) := Mat.zero (by have := At.pairs (w.alloc (.cells #[.bool false, .slice none 0 0, .bool false, .slice none 0 0, .bool false, .slice none 0 0, .bool false, .slice none 0 0, .bool false, .slice none 0 0, .bool false, .slice none 0 0, .bool false, .slice none 0 0, .bool false, .slice none 0 0, .bool false, .slice none 0 0] 71)) 71; simpa using this)
  have RA := (At.pairs w 71).alloc (.cells #[.bool false, .slice none 0 0, .bool false, .slice none 0 0, .bool false, .slice none 0 0, .bool false, .slice none 0 0, .bool false, .slice none 0 0, .bool false, .slice none 0 0, .bool false, .slice none 0 0, .bool false, .slice none 0 0, .bool false, .slice none 0 0] 71)
  have HC := ((Gr.refl w).alloc (.cells #[.bool false, .slice none 0 0, .bool false, .slice none 0 0, .bool false, .slice none 0 0, .bool false, .slice none 0 0, .bool false, .slice none 0 0, .bool false, .slice none 0 0, .bool false, .slice none 0 0, .bool false, .slice none 0 0, .bool false, .slice none 0 0] 71)).alloc (.cells #[.bool false, .slice none 0 0, .bool false, .slice none 0 0, .bool false, .slice none 0 0, .bool false, .slice none 0 0, .bool false, .slice none 0 0, .bool false, .slice none 0 0, .bool false, .slice none 0 0, .bool false, .slice none 0 0, .bool false, .slice none 0 0] 71)
  have M0 := hidb MA
  have R0 := hidb RA
  have G0 := hidb HC
  clear MA RA HC
  go_loopw [12] (fun t wr => ∃ (k : Nat) (ps : List (Bool × Value)), k ≤ l.length ∧ t = .int .i64 (k : Int) ∧ Hid (Mat wr (w.heap.size + 1) ps (sms (l.take k))) ∧ Hid (At wr w.heap.size (pc zero9)) ∧ Hid (Gr w wr)) (fun t _ => l.length - (intOf t).toNat)
  case atStart => exact ⟨0, zero9, Nat.zero_le _, rfl, M0.out, R0.out, G0.out⟩
  case round =>
    clear M0 R0 G0
    obtain ⟨k, ps, hk, rfl, HM, HRz, HG⟩ := hrel
    by_cases h1 : k < l.length
    · obtain ⟨c0, c1, c2⟩ := (HR.out.below HG.out.out).cell h1
      have ix := HR.out.ix k h1
      have HT : Hid (l.take (k + 1) = l.take k ++ [l[k]]) := List.take_succ_eq_append_getElem h1
      have SB : Hid (Sme l[k]) := HS.out _ (List.getElem_mem h1)
      have SL : Hid (∀ i j, (sm (l.take k) i j).natAbs ≤ 70 * 2 ^ 108) := fun i j => Nat.le_trans (sm_bd (fun e he => HS.out e (List.mem_of_mem_take he)) i j) (Nat.mul_le_mul_right _ (by rw [List.length_take]; omega))
      obtain ⟨e, he⟩ : ∃ e, e = l[k] := ⟨_, rfl⟩
      rw [← he] at c0 c1 c2 HT SB
      clear he
      obtain ⟨lk, hlk⟩ : ∃ lk, lk = l.take k := ⟨_, rfl⟩
      rw [← hlk] at HM HT SL
      clear hlk
      have HM0 : Hid (Mat wr (w.heap.size + 1) ps (upd lk e 0)) := by rw [upd_zero]; exact HM
      obtain ⟨EB, hEB⟩ : ∃ EB, EB = wr.heap.size := ⟨_, rfl⟩
      have EA : At (wr.alloc (.cells #[.int .i64 e.x, .int .i64 e.y, .int .i64 e.q] 96)) EB e.cs := by rw [hEB]; exact At.new3 wr _ _ _ _
      have hEl : w.heap.size + 1 < EB := by rw [hEB]; exact HM0.out.at_.lt
      go_upto_region 5 with fail
      rw [← hEB]
      clear hEB c0 c1 c2
      have HM1 := hidb (HM0.out.alloc (.cells #[.int .i64 e.x, .int .i64 e.y, .int .i64 e.q] 96))
      have HRz1 := hidb (HRz.out.alloc (.cells #[.int .i64 e.x, .int .i64 e.y, .int .i64 e.q] 96))
      have HG1 := hidb (HG.out.alloc (.cells #[.int .i64 e.x, .int .i64 e.y, .int .i64 e.q] 96))
      generalize wr.alloc (.cells #[.int .i64 e.x, .int .i64 e.y, .int .i64 e.q] 96) = w2 at *
      obtain ⟨a0, a1, a2⟩ := EA.c3
      clear HM HRz HG HM0
      have HEA := hidb EA
      go_wp2
      go_loopw [17] (fun t wr => ∃ (i : Nat) (ps : List (Bool × Value)), i ≤ 3 ∧ t = .int .i64 (i : Int) ∧ Hid (Mat wr (w.heap.size + 1) ps (upd lk e (3 * i))) ∧ Hid (At wr w.heap.size (pc zero9)) ∧ Hid (At wr EB e.cs) ∧ Hid (Gr w wr)) (fun t _ => 3 - (intOf t).toNat)
      case atStart => exact ⟨0, ps, by omega, rfl, HM1.out, HRz1.out, HEA.out, HG1.out⟩
      case round =>
        clear HM1 HRz1 HEA HG1 a0 a1 a2 EA
        obtain ⟨i, ps, hi, rfl, HM, HRz, HEA, HG⟩ := hrel
        by_cases hi3 : i < 3
        · have iv : ∀ w, (Instr.index 96 (.agg #[.int .i64 e.x, .int .i64 e.y, .int .i64 e.q]) (.int .i64 (i : Int))).run Tryd.prog w = .ok (.int .i64 (cp e i)) w := fun w => ixV e i hi3 w
          have HCi := hidb (cp_bd SB.out i)
          have HI := hidb hi3
          obtain ⟨ci, hci⟩ : ∃ ci, ci = cp e i := ⟨_, rfl⟩
          rw [← hci] at iv HCi
          have HCe := hidb hci
          clear hci
          obtain ⟨a0, a1, a2⟩ := HEA.out.c3
          have hi' : (i : Int) < 3 := by omega
          go_wp2
          go_loopw [22] (fun t wr => ∃ (j : Nat) (ps : List (Bool × Value)), j ≤ 3 ∧ t = .int .i64 (j : Int) ∧ Hid (Mat wr (w.heap.size + 1) ps (upd lk e (3 * i + j))) ∧ Hid (At wr w.heap.size (pc zero9)) ∧ Hid (At wr EB e.cs) ∧ Hid (Gr w wr)) (fun t _ => 3 - (intOf t).toNat)
          case atStart => exact ⟨0, ps, by omega, rfl, HM.out, HRz.out, HEA.out, HG.out⟩
          case round =>
            clear HM HRz HEA HG a0 a1 a2 iv
            obtain ⟨j, ps, hj, rfl, HM, HRz, HEA, HG⟩ := hrel
            by_cases hj3 : j < 3
            · have jv : ∀ w, (Instr.index 96 (.agg #[.int .i64 e.x, .int .i64 e.y, .int .i64 e.q]) (.int .i64 (j : Int))).run Tryd.prog w = .ok (.int .i64 (cp e j)) w := fun w => ixV e j hj3 w
              have HCj := hidb (cp_bd SB.out j)
              obtain ⟨n, hn⟩ : ∃ n, n = 3 * i + j := ⟨_, rfl⟩
              have hn3 : n / 3 = i ∧ n % 3 = j := by omega
              have hn9 : n < 9 := by have := HI.out; omega
              have i1 : ∀ w', (Instr.indexAt 71 (.pointer (some ⟨w.heap.size + 1, 0, none⟩)) (.int .i64 (i : Int))).run Tryd.prog w' = .ok (.pointer (some ⟨w.heap.size + 1, i * 6, none⟩)) w' := fun w' => ixA _ i hi3 w'
              have i2 : ∀ w', (Instr.indexAt 69 (.pointer (some ⟨w.heap.size + 1, i * 6, none⟩)) (.int .i64 (j : Int))).run Tryd.prog w' = .ok (.pointer (some ⟨w.heap.size + 1, n * 2, none⟩)) w' := fun w' => by
                have := ixB (w.heap.size + 1) (i * 6) j hj3 w'
                rwa [show i * 6 + j * 2 = n * 2 by omega] at this
              have hnp : n < ps.length := by rw [HM.out.pl]; exact hn9
              rw [← hn] at HM
              have N0 := HM.out.nm n hnp (by rw [upd_len]; exact hn9)
              rw [upd_at lk e hn9 (by rw [upd_len]; exact hn9), hn3.1, hn3.2] at N0
              have hst := upd_step lk e hn9
              rw [hn3.1, hn3.2] at hst
              obtain ⟨cj, hcj⟩ : ∃ cj, cj = cp e j := ⟨_, rfl⟩
              rw [← hcj] at jv HCj hst
              rw [← HCe.out] at hst
              obtain ⟨z, hz⟩ : ∃ z, z = sm lk i j := ⟨_, rfl⟩
              have zb := SL.out i j
              rw [← hz] at N0 hst zb
              have HST := hidb hst
              have k1 : Wd ci := by have := HCi.out; unfold Wd; omega
              have k2 : Wd cj := by have := HCj.out; unfold Wd; omega
              have b1 : Bw ci := bw_lt HCi.out (by decide)
              have b2 : Bw cj := bw_lt HCj.out (by decide)
              have b3 : Bw (ci * cj) := bw_lt (bw_mul HCi.out HCj.out) (by decide)
              have b4 : Bw z := bw_lt (k := 120) (by omega) (by decide)
              have HNN : Hid (3 * i + (j + 1) = n + 1) := (by show _ = _; omega)
              clear hst hz hcj hn hn3 zb
              obtain ⟨⟨c0, c1⟩, f0, f1⟩ := HM.out.cell hnp
              go_upto_region 11 with fail
              go_region_law ((first
                | (go_simp; go_at_call 42; refine (ofN _ (by with_reducible assumption) _).mono ?_; rintro e w3 ⟨o1, t1, rfl, h1, hB1, hs1⟩; clear hs1; (with_reducible first | replace hB1 := undr hB1 | skip); replace HM := hidb (Mat.below hB1 HM.out); replace HRz := hidb (At.below hB1 HRz.out); replace HEA := hidb (At.below hB1 HEA.out); replace HG := hidb (Gr.step HG.out hB1); clear c0 c1 f0 f1; obtain ⟨⟨c0, c1⟩, f0, f1⟩ := HM.out.cell hnp)
                | (go_simp; go_at_call 44; refine (timesN (x := ?gx) (y := ?gy) ?gh ?gk ?gl ?gm).mono ?_; (case gh => ((with_reducible repeat' (first | assumption | refine Nm.drew ?_ | refine Nm.step (by assumption) ?_)); done)); (case gk => ((with_reducible repeat' (first | assumption | refine Nm.drew ?_ | refine Nm.step (by assumption) ?_)); done)); (case gl => with_reducible assumption); (case gm => with_reducible assumption); rintro e w3 ⟨o1, t1, rfl, h1, hB1, hs1⟩; clear hs1; (with_reducible first | replace hB1 := undr hB1 | skip); replace HM := hidb (Mat.below hB1 HM.out); replace HRz := hidb (At.below hB1 HRz.out); replace HEA := hidb (At.below hB1 HEA.out); replace HG := hidb (Gr.step HG.out hB1); clear c0 c1 f0 f1; obtain ⟨⟨c0, c1⟩, f0, f1⟩ := HM.out.cell hnp)
                | (go_simp; go_at_call 43; refine (plusN (x := ?kx) (y := ?ky) ?kh ?kk ?kl ?km).mono ?_; (case kh => ((with_reducible repeat' (first | assumption | refine Nm.drew ?_ | refine Nm.step (by assumption) ?_)); done)); (case kk => ((with_reducible repeat' (first | assumption | refine Nm.drew ?_ | refine Nm.step (by assumption) ?_)); done)); (case kl => with_reducible assumption); (case km => with_reducible assumption); rintro e w3 ⟨o1, t1, rfl, h1, hB1, hs1⟩; clear hs1; (with_reducible first | replace hB1 := undr hB1 | skip); replace HM := hidb (Mat.below hB1 HM.out); replace HRz := hidb (At.below hB1 HRz.out); replace HEA := hidb (At.below hB1 HEA.out); replace HG := hidb (Gr.step HG.out hB1); clear c0 c1 f0 f1; obtain ⟨⟨c0, c1⟩, f0, f1⟩ := HM.out.cell hnp; obtain ⟨ad5, L5, cap5, he5⟩ := h1.form; rw [he5] at h1 ⊢; have HT5 := hidb h1; clear h1 he5)))
              all_goals
                have hm2 := HM.out.put n o1 (.slice ad5 L5 cap5) (z + ci * cj) HT5.out
                rw [HST.out, ← HNN.out] at hm2
                have HM2 := hidb hm2
                clear hm2
                have HR2 := hidb ((HRz.out.skip (c := w.heap.size + 1) (by omega) (n * 2) (.bool o1)).skip (c := w.heap.size + 1) (by omega) (n * 2 + 1) (.slice ad5 L5 cap5))
                have HE2 := hidb ((HEA.out.skip (c := w.heap.size + 1) (by omega) (n * 2) (.bool o1)).skip (c := w.heap.size + 1) (by omega) (n * 2 + 1) (.slice ad5 L5 cap5))
                have HG2 := hidb ((HG.out.set (c := w.heap.size + 1) (by omega) (n * 2) (.bool o1)).set (c := w.heap.size + 1) (by omega) (n * 2 + 1) (.slice ad5 L5 cap5))
                clear HM HRz HEA HG c0 c1 f0 f1 i1 i2 jv N0
                go_wp2
                go_roundw
              all_goals first
                | (case rel => exact ⟨j + 1, _, by omega, by go_num, HM2.out, HR2.out, HE2.out, HG2.out⟩)
                | (case measure => simp [intOf]; omega)
            · have hj : j = 3 := by omega
              subst hj
              have HM2 : Hid (Mat wr (w.heap.size + 1) ps (upd lk e (3 * (i + 1)))) := by rw [show 3 * (i + 1) = 3 * i + 3 by omega]; exact HM
              clear HM
              go_wp2
              go_roundw
              case rel => exact ⟨i + 1, ps, by omega, by go_num, HM2.out, HRz.out, HEA.out, HG.out⟩
              case measure => simp [intOf]; omega
        · have hi3' : i = 3 := by omega
          subst hi3'
          have HM2 : Hid (Mat wr (w.heap.size + 1) ps (sms (l.take (k + 1)))) := by rw [HT.out, ← upd_nine]; exact HM
          clear HM
          go_wp2
          go_roundw
          case rel => exact ⟨k + 1, ps, by omega, by go_num, HM2.out, HRz.out, HG.out⟩
          case measure => simp [intOf]; omega
    · have hkl : k = l.length := by omega
      rw [hkl, List.take_of_length_le (Nat.le_refl _)] at HM
      clear hkl
      obtain ⟨d, hu, hd⟩ := undN
      have hl18 : (pc ps).length = 18 := by rw [pc_len, HM.out.pl]
      have HL := hidb hl18
      have HU := hidb hu
      have HD := hidb hd
      clear hl18 hu hd
      go_wp2_with (first
        | refine wpList_load_mid rfl 71 _ rfl (w.heap.size + 1) 0 rfl (pc ps) d HM.out.at_.range HU.out HD.out (by rw [HL.out]; exact infoN) ?_
        | refine wpList_store_mid rfl 71 _ _ rfl w.heap.size 0 (pc ps).toArray rfl rfl (HRz.out.there (by rw [List.size_toArray, HL.out]; decide)) (by rw [List.size_toArray, HL.out]; exact infoN) (all_oneCell_toArray HM.out.ones) ?_)
      have hr := run_loadVar_mid (P := Tryd.prog) (wr.setCells w.heap.size 0 (pc ps)) w.heap.size 0 71 (pc ps) d (World.rangeAt_setCells_same _ _ _ _ (HRz.out.there (by rw [HL.out]; decide))) HU.out HD.out (by rw [HL.out]; exact infoN)
      obtain ⟨mz, hmz⟩ : ∃ m, wr.cell? ⟨w.heap.size, 0, none⟩ = some (.bool m) := ⟨false, (HRz.out.1 0 (by decide)).1⟩
      refine bodyPost_ret (v := .agg (pc ps).toArray) ?_ rfl ⟨ps, rfl, HM.out.pl, fun t h h' => ⟨(HM.out.nm t h h').1.setCs hmz _, (HM.out.nm t h h').2⟩, Gr.setCs (W := wr) (Nat.le_refl _) _ _ HG.out, by rw [size_setCs]; exact HRz.out.lt⟩
      simp [results, Tryd.results22, Act.put]
      exact hr
end Go.Proofs.YtilgamhdcmkkeaaDoor
namespace Go.Proofs.YtilgamhdcmkkeaaDoor
open Go.RowKit
attribute [local go_sem ↓] Go.wp_at_zero Go.wp_at_succ

/-- The determinant of two columns of the first two rows. -/
def crs (zs : List Int) (a b : Nat) : Int := zs.getD a 0 * zs.getD (3 + b) 0 - zs.getD b 0 * zs.getD (3 + a) 0
theorem getD9 {zs : List Int} (hl : zs.length = 9) {t : Nat} (h : t < 9) : zs.getD t 0 = zs[t] := by
  rw [List.getD_eq_getElem?_getD, List.getElem?_eq_getElem (by omega)]; rfl
theorem At.skipC {W : World} {S B : Nat} {ps : List (Bool × Value)} {zs : List Int} (h : Mat W S ps zs) (hB : ¬ B = S) {t : Nat} (ht : t < ps.length) (u v : Value) : ((W.setCell ⟨B, 0, none⟩ u).setCell ⟨B, 1, none⟩ v).cell? ⟨S, t * 2, none⟩ = some (.bool ps[t].1) ∧ ((W.setCell ⟨B, 0, none⟩ u).setCell ⟨B, 1, none⟩ v).cell? ⟨S, t * 2 + 1, none⟩ = some ps[t].2 := by
  obtain ⟨⟨c0, c1⟩, _⟩ := h.cell ht
  have hB' : ¬ S = B := fun e => hB e.symm
  exact ⟨by simp [go_sem, c0], by simp [go_sem, c1]⟩
theorem mat4 {W : World} {S B : Nat} {ps : List (Bool × Value)} {zs : List Int} (h : Mat W S ps zs) (hB : ¬ B = S) {a b c d : Nat} (ha : a < ps.length) (hb : b < ps.length) (hc : c < ps.length) (hd : d < ps.length) (u v : Value) : (((W.setCell ⟨B, 0, none⟩ u).setCell ⟨B, 1, none⟩ v).cell? ⟨S, a * 2, none⟩ = some (.bool ps[a].1) ∧ ((W.setCell ⟨B, 0, none⟩ u).setCell ⟨B, 1, none⟩ v).cell? ⟨S, a * 2 + 1, none⟩ = some ps[a].2) ∧ (((W.setCell ⟨B, 0, none⟩ u).setCell ⟨B, 1, none⟩ v).cell? ⟨S, b * 2, none⟩ = some (.bool ps[b].1) ∧ ((W.setCell ⟨B, 0, none⟩ u).setCell ⟨B, 1, none⟩ v).cell? ⟨S, b * 2 + 1, none⟩ = some ps[b].2) ∧ (((W.setCell ⟨B, 0, none⟩ u).setCell ⟨B, 1, none⟩ v).cell? ⟨S, c * 2, none⟩ = some (.bool ps[c].1) ∧ ((W.setCell ⟨B, 0, none⟩ u).setCell ⟨B, 1, none⟩ v).cell? ⟨S, c * 2 + 1, none⟩ = some ps[c].2) ∧ ((W.setCell ⟨B, 0, none⟩ u).setCell ⟨B, 1, none⟩ v).cell? ⟨S, d * 2, none⟩ = some (.bool ps[d].1) ∧ ((W.setCell ⟨B, 0, none⟩ u).setCell ⟨B, 1, none⟩ v).cell? ⟨S, d * 2 + 1, none⟩ = some ps[d].2 := ⟨At.skipC h hB ha u v, At.skipC h hB hb u v, At.skipC h hB hc u v, At.skipC h hB hd u v⟩
set_option maxRecDepth 8000 in
set_option maxHeartbeats 16000000 in
theorem crossed_any (a b : Nat) (ha : a < 3) (hb : b < 3) (ps : List (Bool × Value)) (zs : List Int) (w : World) (hp : ps.length = 9) (hz : zs.length = 9) (hN : ∀ t (h : t < ps.length) (h' : t < zs.length), Nm w ps[t].1 ps[t].2 zs[t]) (hB : ∀ t, t < 9 → (zs.getD t 0).natAbs < 2 ^ 116) : Calls Tryd.prog 24 #[.agg (pc ps).toArray, .int .i64 (a : Int), .int .i64 (b : Int)] w fun e w' => ∃ o t, e = .returned (.agg #[.bool o, t]) ∧ Nm w' o t (crs zs a b) ∧ Gr w w' ∧ w.heap.size < w'.heap.size := by
  obtain ⟨t2, ht2⟩ : ∃ t, t = 3 + b := ⟨_, rfl⟩
  obtain ⟨t3, ht3⟩ : ∃ t, t = 3 + a := ⟨_, rfl⟩
  have p0 : a < ps.length := by omega
  have p1 : b < ps.length := by omega
  have p2 : t2 < ps.length := by omega
  have p3 : t3 < ps.length := by omega
  have g0 := getD9 hz (t := a) (by omega)
  have g1 := getD9 hz (t := b) (by omega)
  have g2 := getD9 hz (t := t2) (by omega)
  have g3 := getD9 hz (t := t3) (by omega)
  have MA : Mat (w.alloc (.cells (pc ps).toArray 71)) w.heap.size ps zs := ⟨At.row w (pc ps) _, hp, hz, fun t h h' => (hN t h h').below ((Below.refl _ _).alloc (Nat.le_refl _) _)⟩
  have N0 := MA.nm a p0 (by omega)
  have N1 := MA.nm b p1 (by omega)
  have N2 := MA.nm t2 p2 (by omega)
  have N3 := MA.nm t3 p3 (by omega)
  rw [← g0] at N0
  rw [← g1] at N1
  rw [← g2] at N2
  rw [← g3] at N3
  have l0 := hB a (by omega)
  have l1 := hB b (by omega)
  have l2 := hB t2 (by omega)
  have l3 := hB t3 (by omega)
  unfold crs
  rw [← ht2, ← ht3]
  generalize zs.getD a 0 = za at *
  generalize zs.getD b 0 = zb at *
  generalize zs.getD t2 0 = zd at *
  generalize zs.getD t3 0 = zc at *
  have b0 : Bw za := bw_lt l0 (by decide)
  have b1 : Bw zb := bw_lt l1 (by decide)
  have b2 : Bw zd := bw_lt l2 (by decide)
  have b3 : Bw zc := bw_lt l3 (by decide)
  have b4 : Bw (za * zd) := bw_lt (bw_mul l0 l2) (by decide)
  have b5 : Bw (zb * zc) := bw_lt (bw_mul l1 l3) (by decide)
  clear g0 g1 g2 g3 l0 l1 l2 l3 hB hN hz
  have i0 : ∀ w', (Instr.indexAt 71 (.pointer (some ⟨w.heap.size, 0, none⟩)) (.int .i64 0)).run Tryd.prog w' = .ok (.pointer (some ⟨w.heap.size, 0, none⟩)) w' := fun w' => ixA w.heap.size 0 (by decide) w'
  have i1 : ∀ w', (Instr.indexAt 71 (.pointer (some ⟨w.heap.size, 0, none⟩)) (.int .i64 1)).run Tryd.prog w' = .ok (.pointer (some ⟨w.heap.size, 6, none⟩)) w' := fun w' => ixA w.heap.size 1 (by decide) w'
  have j0 : ∀ w', (Instr.indexAt 69 (.pointer (some ⟨w.heap.size, 0, none⟩)) (.int .i64 (a : Int))).run Tryd.prog w' = .ok (.pointer (some ⟨w.heap.size, a * 2, none⟩)) w' := fun w' => by
    have := ixB w.heap.size 0 a ha w'; rwa [Nat.zero_add] at this
  have j1 : ∀ w', (Instr.indexAt 69 (.pointer (some ⟨w.heap.size, 0, none⟩)) (.int .i64 (b : Int))).run Tryd.prog w' = .ok (.pointer (some ⟨w.heap.size, b * 2, none⟩)) w' := fun w' => by
    have := ixB w.heap.size 0 b hb w'; rwa [Nat.zero_add] at this
  have j2 : ∀ w', (Instr.indexAt 69 (.pointer (some ⟨w.heap.size, 6, none⟩)) (.int .i64 (b : Int))).run Tryd.prog w' = .ok (.pointer (some ⟨w.heap.size, t2 * 2, none⟩)) w' := fun w' => by
    have := ixB w.heap.size 6 b hb w'; rwa [show 6 + b * 2 = t2 * 2 by omega] at this
  have j3 : ∀ w', (Instr.indexAt 69 (.pointer (some ⟨w.heap.size, 6, none⟩)) (.int .i64 (a : Int))).run Tryd.prog w' = .ok (.pointer (some ⟨w.heap.size, t3 * 2, none⟩)) w' := fun w' => by
    have := ixB w.heap.size 6 a ha w'; rwa [show 6 + a * 2 = t3 * 2 by omega] at this
  have HP9 := hidb hp
  clear ht2 ht3 hp
  go_enter Tryd.func24, Tryd.ntmps24
  go_upto_region 1 with fail
  have RA := At.nx2 (W := w) (.cells (pc ps).toArray 71) (.bool false) (.slice none 0 0) 68
  have HC := ((Gr.refl w).alloc (.cells (pc ps).toArray 71)).alloc (.cells #[.bool false, .slice none 0 0] 68)
  replace MA := MA.alloc (.cells #[.bool false, .slice none 0 0] 68)
  replace N0 := N0.below ((Below.refl _ _).alloc (Nat.le_refl _) (.cells #[.bool false, .slice none 0 0] 68))
  replace N1 := N1.below ((Below.refl _ _).alloc (Nat.le_refl _) (.cells #[.bool false, .slice none 0 0] 68))
  replace N2 := N2.below ((Below.refl _ _).alloc (Nat.le_refl _) (.cells #[.bool false, .slice none 0 0] 68))
  replace N3 := N3.below ((Below.refl _ _).alloc (Nat.le_refl _) (.cells #[.bool false, .slice none 0 0] 68))
  generalize (w.alloc (.cells (pc ps).toArray 71)).alloc (.cells #[.bool false, .slice none 0 0] 68) = w1 at *
  go_region_held (fun w' => (w'.cell? ⟨w.heap.size, a * 2, none⟩ = some (.bool ps[a].1) ∧ w'.cell? ⟨w.heap.size, a * 2 + 1, none⟩ = some ps[a].2) ∧ (w'.cell? ⟨w.heap.size, b * 2, none⟩ = some (.bool ps[b].1) ∧ w'.cell? ⟨w.heap.size, b * 2 + 1, none⟩ = some ps[b].2) ∧ (w'.cell? ⟨w.heap.size, t2 * 2, none⟩ = some (.bool ps[t2].1) ∧ w'.cell? ⟨w.heap.size, t2 * 2 + 1, none⟩ = some ps[t2].2) ∧ w'.cell? ⟨w.heap.size, t3 * 2, none⟩ = some (.bool ps[t3].1) ∧ w'.cell? ⟨w.heap.size, t3 * 2 + 1, none⟩ = some ps[t3].2)
    (first | exact ⟨(MA.cell p0).1, (MA.cell p1).1, (MA.cell p2).1, (MA.cell p3).1⟩ | exact mat4 MA (by omega) p0 p1 p2 p3 _ _)
    ((first
      | (go_at_call 44; refine (timesN (x := ?gx) (y := ?gy) ?gh ?gk ?gl ?gm).mono ?_; (case gh => ((with_reducible repeat' (first | assumption | refine Nm.drew ?_ | refine Nm.step (by assumption) ?_)); done)); (case gk => ((with_reducible repeat' (first | assumption | refine Nm.drew ?_ | refine Nm.step (by assumption) ?_)); done)); (case gl => with_reducible assumption); (case gm => with_reducible assumption); rintro e w3 ⟨o1, t1, rfl, h1, hB1, hs1⟩; clear hs1; (with_reducible first | replace hB1 := undr hB1 | skip); replace HC := Gr.step HC hB1; replace RA := At.below hB1 RA; replace MA := Mat.below hB1 MA)
      | (go_at_call 44; refine (timesN (x := ?kx) (y := ?ky) ?kh ?kk ?kl ?km).mono ?_; (case kh => ((with_reducible repeat' (first | assumption | refine Nm.drew ?_ | refine Nm.step (by assumption) ?_)); done)); (case kk => ((with_reducible repeat' (first | assumption | refine Nm.drew ?_ | refine Nm.step (by assumption) ?_)); done)); (case kl => with_reducible assumption); (case km => with_reducible assumption); rintro e w3 ⟨o1, t1, rfl, h1, hB1, hs1⟩; clear hs1; (with_reducible first | replace hB1 := undr hB1 | skip); replace HC := Gr.step HC hB1; replace RA := At.below hB1 RA; replace MA := Mat.below hB1 MA)
      | (go_at_call 46; refine (lessN (x := ?jx) (y := ?jy) ?jh ?jk ?jl ?jm).mono ?_; (case jh => ((with_reducible repeat' (first | assumption | refine Nm.drew ?_ | refine Nm.step (by assumption) ?_)); done)); (case jk => ((with_reducible repeat' (first | assumption | refine Nm.drew ?_ | refine Nm.step (by assumption) ?_)); done)); (case jl => with_reducible assumption); (case jm => with_reducible assumption); rintro e w3 ⟨o1, t1, rfl, h1, hB1, hs1⟩; clear hs1; (with_reducible first | replace hB1 := undr hB1 | skip); replace HC := Gr.step HC hB1; replace RA := At.below hB1 RA; replace MA := Mat.below hB1 MA; obtain ⟨ad5, L5, cap5, he5⟩ := h1.form; rw [he5] at h1 ⊢; have HT5 := hidb h1; clear h1 he5; obtain ⟨r0, r1⟩ := RA.c2; obtain ⟨f0, f1⟩ := RA.f2)))
  all_goals
    go_wp2
    have hge : w.heap.size ≤ w.heap.size + 1 := by omega
    exact bodyPost_ret (v := .agg #[.bool o1, .slice ad5 L5 cap5]) (by simp [results, Tryd.results24, go_sem, r0, r1]) rfl ⟨_, _, rfl, ⟨HT5.out.1.setS2 RA _, HT5.out.2⟩, (HC.set hge _ _).set hge _ _, by have := RA.lt; simp; omega⟩
end Go.Proofs.YtilgamhdcmkkeaaDoor
namespace Go.Proofs.YtilgamhdcmkkeaaDoor
open Go.RowKit
attribute [local go_sem ↓] Go.wp_at_zero Go.wp_at_succ

/-- The differences of all others from the first. -/
def difs : List Rg → List Rg
  | [] => []
  | f :: l => l.map (dif f)
theorem differences_all (ad : Option Addr) (b cap : Nat) (l : List Rg) (w : World) (h : RSl 30 w ad b cap l) (ll : l.length ≤ 70) (hok : ∀ r ∈ l, okR r) : Calls Tryd.prog 23 #[.slice ad l.length cap] w fun e w' => ∃ ad' b' cap', e = .returned (.slice ad' (difs l).length cap') ∧ RSl 73 w' ad' b' cap' (difs l) ∧ Gr w w' := by
  cases l with
  | nil =>
    clear h hok ll
    show Calls Tryd.prog 23 #[.slice ad 0 cap] w _
    go_enter Tryd.func23, Tryd.ntmps23
    go_wp2
    refine wp_loop_rounds 1 ?_
    rw [rounds_succ]
    go_wp2
    go_ret
    exact ⟨none, 0, 0, rfl, ⟨.inr rfl, fun k hk => by simp [difs] at hk⟩, Gr.refl _⟩
  | cons f l =>
    refine (differences_any ad b cap f l w h (by simp at ll; omega) hok).mono ?_
    rintro e w' ⟨v, rfl, hown, hG⟩
    obtain ⟨ad', b', cap', rfl, hr⟩ := own_esl hown
    exact ⟨ad', b', cap', rfl, hr, hG⟩
theorem difs_len (l : List Rg) : (difs l).length ≤ l.length := by cases l <;> simp [difs]
theorem difs_sme {l : List Rg} (hok : ∀ r ∈ l, okR r) : ∀ e ∈ difs l, Sme e := by
  cases l with
  | nil => intro e he; cases he
  | cons f l =>
    intro e he
    obtain ⟨r, hr, rfl⟩ := List.mem_map.1 he
    have hf := hok f (List.mem_cons_self ..)
    have hr' := hok r (List.mem_cons_of_mem _ hr)
    have b1 := bey_bd hf
    have b2 := bey_bd hr'
    obtain ⟨⟨⟨h1, h2⟩, h3, h4⟩, _⟩ := hf
    obtain ⟨⟨⟨k1, k2⟩, k3, k4⟩, _⟩ := hr'
    unfold Sme dif
    dsimp only
    omega
/-- The two equations' numbers. -/
def sOv (l : List Rg) : Int := crs (sms (difs l)) 0 1
def sX (l : List Rg) : Int := crs (sms (difs l)) 2 1
def sY (l : List Rg) : Int := crs (sms (difs l)) 0 2
theorem sms_bd {l : List Rg} (hok : ∀ r ∈ l, okR r) (ll : l.length ≤ 70) : ∀ t, t < 9 → ((sms (difs l)).getD t 0).natAbs < 2 ^ 116 := by
  intro t ht
  rw [getD9 (by simp [sms]) ht]
  have := sm_bd (difs_sme hok) (t / 3) (t % 3)
  have e : (sms (difs l))[t]'(by simp [sms]; exact ht) = sm (difs l) (t / 3) (t % 3) := by simp [sms]
  rw [e]
  have h2 : (difs l).length * 2 ^ 108 ≤ 70 * 2 ^ 108 := Nat.mul_le_mul_right _ (Nat.le_trans (difs_len l) ll)
  omega
theorem crs_bw {zs : List Int} (h : ∀ t, t < 9 → (zs.getD t 0).natAbs < 2 ^ 116) {a b : Nat} (ha : a < 3) (hb : b < 3) : Bw (crs zs a b) ∧ (crs zs a b).natAbs < 2 ^ 240 := by
  have h1 := bw_mul (h a (by omega)) (h (3 + b) (by omega))
  have h2 := bw_mul (h b (by omega)) (h (3 + a) (by omega))
  have h3 : (crs zs a b).natAbs < 2 ^ 240 := by
    unfold crs
    generalize zs.getD a 0 * zs.getD (3 + b) 0 = x at *
    generalize zs.getD b 0 * zs.getD (3 + a) 0 = y at *
    omega
  exact ⟨bw_lt h3 (by decide), h3⟩
/-- The answer. -/
def SP (g : Nat → Addr) (l : List Rg) (X Y E : Value) : Prop :=
  (¬ rerr g l = .nilIface ∧ X = fr0 ∧ Y = fr0 ∧ E = rerr g l) ∨
  (rerr g l = .nilIface ∧ sOv l = 0 ∧ X = fr0 ∧ Y = fr0 ∧ E = errV g 5) ∨
  (rerr g l = .nilIface ∧ ¬ sOv l = 0 ∧ qf (sX l) (sOv l) = false ∧ X = fr0 ∧ Y = fr0 ∧ E = errV g 1) ∨
  (rerr g l = .nilIface ∧ ¬ sOv l = 0 ∧ qf (sX l) (sOv l) = true ∧ qf (sY l) (sOv l) = false ∧ X = fr0 ∧ Y = fr0 ∧ E = errV g 1) ∨
  (rerr g l = .nilIface ∧ ¬ sOv l = 0 ∧ qf (sX l) (sOv l) = true ∧ qf (sY l) (sOv l) = true ∧ X = .agg #[.int .i64 (qx (sX l) (sOv l)), .int .i64 (qy (sX l) (sOv l))] ∧ Y = .agg #[.int .i64 (qx (sY l) (sOv l)), .int .i64 (qy (sY l) (sOv l))] ∧ E = .nilIface)
theorem rerr_nil {g : Nat → Addr} {l : List Rg} (h : rerr g l = .nilIface) : l.length ≤ 60 ∧ ∀ r ∈ l, okR r := by
  unfold rerr at h
  split at h
  · cases h
  · split at h
    · exact ⟨by omega, by assumption⟩
    · cases h
theorem rerr_shape (g : Nat → Addr) (l : List Rg) : rerr g l = .nilIface ∨ ∃ i, i < 8 ∧ rerr g l = errV g i := by
  unfold rerr
  split
  · exact .inr ⟨1, by decide, rfl⟩
  · split
    · exact .inl rfl
    · exact .inr ⟨2, by decide, rfl⟩
set_option maxRecDepth 8000 in
set_option maxHeartbeats 16000000 in
theorem solve_bad (g : Nat → Addr) (ad : Option Addr) (b cap : Nat) (l : List Rg) (w : World) (h : RSl 30 w ad b cap l) (ll : l.length ≤ 1000) (hl : Laid w g) (hr : ¬ rerr g l = .nilIface) : Calls Tryd.prog 7 #[.slice ad l.length cap] w fun e w' => e = .returned (.tuple #[fr0, fr0, rerr g l]) ∧ Gr w w' := by
  obtain ⟨i, hi, he⟩ := (rerr_shape g l).resolve_left hr
  have HV := hidb (fun w (h : RSl 30 w ad b cap l) hl => valid_any g ad b cap l w h ll hl)
  rw [he] at HV
  rw [he]
  have HR := hidb h
  have HL := hidb hl
  clear h hl hr he hi
  have hge : w.heap.size ≤ w.heap.size + 1 := by omega
  have XA := (At.new2 w (.int .i64 0) (.int .i64 0) 25).alloc (.cells #[.int .i64 0, .int .i64 0] 25)
  have YA := At.nx2 (W := w) (.cells #[.int .i64 0, .int .i64 0] 25) (.int .i64 0) (.int .i64 0) 25
  have HC := ((Gr.refl w).alloc (.cells #[.int .i64 0, .int .i64 0] 25)).alloc (.cells #[.int .i64 0, .int .i64 0] 25)
  go_enter Tryd.func7, Tryd.ntmps7
  go_wp2_with fail
  refine (HV.out _ (HR.out.below HC.out) (HL.out.below HC.out)).mono ?_
  rintro e w1 ⟨rfl, hB⟩
  replace XA := At.below hB XA
  replace YA := At.below hB YA
  replace HC := Gr.step HC hB
  clear hB HV
  obtain ⟨x0, x1⟩ := XA.c2
  obtain ⟨x2, x3⟩ := XA.f2
  obtain ⟨y0, y1⟩ := YA.c2
  obtain ⟨y2, y3⟩ := YA.f2
  go_wp2
  exact bodyPost_ret (v := .tuple #[fr0, fr0, errV g i]) (by simp [results, Tryd.results7, go_sem, x0, x1, y0, y1]) rfl ⟨rfl, (((HC.set (Nat.le_refl _) _ _).set (Nat.le_refl _) _ _).set hge _ _).set hge _ _⟩
end Go.Proofs.YtilgamhdcmkkeaaDoor
