/-
  fix.added: the walk.
-/
import Derived.Test.YtehkonddgiakaaaDoorQFxJ
import Derived.Deep.MidRow
namespace Go.Proofs.YtehkonddgiakaaaDoor
open Go.RowKit
attribute [local go_sem ↓] Go.wp_at_zero Go.wp_at_succ

theorem plusN {w : World} {m n : Bool} {u v : Value} {x y : Int} (h : Nm w m u x) (k : Nm w n v y) (lx : Bw x) (ly : Bw y) : Calls Tryd.prog 43 #[.agg #[.bool m, u], .agg #[.bool n, v]] w fun e w' => ∃ o t, e = .returned (.agg #[.bool o, t]) ∧ Nm w' o t (x + y) ∧ Below w.heap.size w w' ∧ w.heap.size < w'.heap.size := plus_nm lx ly h k
theorem At.range {W : World} {B : Nat} {l : List Value} (h : At W B l) : W.rangeAt B 0 l := fun j v hv => by
  obtain ⟨hj, rfl⟩ := List.getElem?_eq_some_iff.1 hv
  rw [Nat.zero_add]; exact (h.1 j hj).1
theorem At.there {W : World} {B n : Nat} {l : List Value} (h : At W B l) (hn : l.length = n) : W.there B 0 n := fun j hj => by
  have := h.1 j (by omega)
  rw [Nat.zero_add, this.1]
  exact ⟨rfl, this.2⟩
theorem Gr.setCs {w W : World} {c : Nat} (hc : w.heap.size ≤ c) : ∀ (vs : List Value) (o : Nat) {W : World}, Gr w W → Gr w (W.setCells c o vs)
  | [], _, _, h => h
  | v :: vs, o, _, h => by
    rw [World.setCells]
    exact Gr.setCs (W := W) hc vs (o + 1) (h.set hc o v)
theorem size_setCs {c : Nat} : ∀ (vs : List Value) (o : Nat) (W : World), (W.setCells c o vs).heap.size = W.heap.size
  | [], _, _ => rfl
  | v :: vs, o, W => by rw [World.setCells, size_setCs vs (o + 1)]; simp
theorem Pt.setCs {w : World} {v : Value} {l : List Nat} {B : Nat} {m : Bool} (h : Pt w v l) (hA : w.cell? ⟨B, 0, none⟩ = some (.bool m)) (vs : List Value) : Pt (w.setCells B 0 vs) v l := by
  rcases h with h | ⟨b, cap, h1, h2, h3, h4, h5⟩
  · exact .inl h
  · refine .inr ⟨b, cap, h1, h2, h3, fun i hi => ?_, by rw [size_setCs]; exact h5⟩
    have hne : b ≠ B := by
      intro e
      subst e
      have c' := h4 0 (by omega)
      rw [hA] at c'; cases c'
    rw [World.cell?_setCells_out B vs 0 w ⟨b, i, none⟩ (fun hb _ => absurd hb hne)]
    exact h4 i hi
theorem infoN : (Tryd.prog.info? 71).map (·.size) = some 18 := by kernel_rfl
theorem undN : ∃ d, Tryd.prog.underlying 71 = some d ∧ d.isRow = true := ⟨_, Tryd.underlying71, rfl⟩
/-- The sizes are slices. -/
theorem Mat.ones {W : World} {S : Nat} {ps : List (Bool × Value)} {zs : List Int} (h : Mat W S ps zs) : ∀ v ∈ pc ps, v.oneCell' = true := by
  intro v hv
  unfold pc at hv
  obtain ⟨p, hp, hv⟩ := List.mem_flatMap.1 hv
  obtain ⟨t, ht, rfl⟩ := List.mem_iff_getElem.1 hp
  have hz : t < zs.length := by rw [h.zl, ← h.pl]; exact ht
  obtain ⟨ad, L, cap, hf⟩ := (h.nm t ht hz).form
  simp only [List.mem_cons, List.not_mem_nil, or_false] at hv
  rcases hv with rfl | rfl
  · rfl
  · rw [hf]; rfl
abbrev zero9 : List (Bool × Value) := List.replicate 9 (false, .slice none 0 0)
theorem sms_nil : sms [] = List.replicate 9 0 := by decide
theorem At.row (W : World) (l : List Value) (t : Nat) : At (W.alloc (.cells l.toArray t)) W.heap.size l := by
  have hb : (W.alloc (.cells l.toArray t)).heap[W.heap.size]? = some (.cells l.toArray t) := heap_alloc_new W _
  refine ⟨fun i hi => ⟨?_, ?_⟩, by simp⟩
  · unfold World.cell?; rw [hb]; simp [hi]
  · unfold World.frozen?; rw [hb]; simp
theorem At.pairs (W : World) (t : Nat) : At (W.alloc (.cells #[.bool false, .slice none 0 0, .bool false, .slice none 0 0, .bool false, .slice none 0 0, .bool false, .slice none 0 0, .bool false, .slice none 0 0, .bool false, .slice none 0 0, .bool false, .slice none 0 0, .bool false, .slice none 0 0, .bool false, .slice none 0 0] t)) W.heap.size (pc zero9) := At.row W (pc zero9) t
theorem nm_zero (W : World) : Nm W false (.slice none 0 0) 0 := ⟨.inl ⟨rfl, WH.dn_zero⟩, by simp⟩
theorem Mat.zero {W : World} {S : Nat} (h : At W S (pc zero9)) : Mat W S zero9 (sms []) := by
  refine ⟨h, rfl, rfl, fun t a b => ?_⟩
  have e2 : (sms [])[t] = 0 := by simp [sms, sm]
  rw [e2]
  simpa using nm_zero W
set_option maxRecDepth 8000 in
set_option maxHeartbeats 16000000 in
theorem added_any (ad : Option Addr) (b cap : Nat) (l : List Rg) (w : World) (h : RSl 73 w ad b cap l) (ll : l.length ≤ 70) (hs : ∀ e ∈ l, Sme e) : Calls Tryd.prog 22 #[.slice ad l.length cap] w fun e w' => ∃ ps, e = .returned (.agg (pc ps).toArray) ∧ ps.length = 9 ∧ (∀ t (h : t < ps.length) (h' : t < (sms l).length), Nm w' ps[t].1 ps[t].2 (sms l)[t]) ∧ Gr w w' ∧ w.heap.size < w'.heap.size := by
  have HR := hidb h
  have HS := hidb hs
  clear h hs
  go_enter Tryd.func22, Tryd.ntmps22
  go_wp2
  have MA : Mat _ (w.heap.size + 1) zero9 (sms []) := Mat.zero (by have := At.pairs (w.alloc (.cells #[.bool false, .slice none 0 0, .bool false, .slice none 0 0, .bool false, .slice none 0 0, .bool false, .slice none 0 0, .bool false, .slice none 0 0, .bool false, .slice none 0 0, .bool false, .slice none 0 0, .bool false, .slice none 0 0, .bool false, .slice none 0 0] 71)) 71; simpa using this)
  have RA := (At.pairs w 71).alloc (.cells #[.bool false, .slice none 0 0, .bool false, .slice none 0 0, .bool false, .slice none 0 0, .bool false, .slice none 0 0, .bool false, .slice none 0 0, .bool false, .slice none 0 0, .bool false, .slice none 0 0, .bool false, .slice none 0 0, .bool false, .slice none 0 0] 71)
  have HC := ((Gr.refl w).alloc (.cells #[.bool false, .slice none 0 0, .bool false, .slice none 0 0, .bool false, .slice none 0 0, .bool false, .slice none 0 0, .bool false, .slice none 0 0, .bool false, .slice none 0 0, .bool false, .slice none 0 0, .bool false, .slice none 0 0, .bool false, .slice none 0 0] 71)).alloc (.cells #[.bool false, .slice none 0 0, .bool false, .slice none 0 0, .bool false, .slice none 0 0, .bool false, .slice none 0 0, .bool false, .slice none 0 0, .bool false, .slice none 0 0, .bool false, .slice none 0 0, .bool false, .slice none 0 0, .bool false, .slice none 0 0] 71)
  have M0 := hidb MA
  have R0 := hidb RA
  have G0 := hidb HC
  clear MA RA HC
  go_loopw [12] (fun t wr => ∃ (k : Nat) (ps : List (Bool × Value)), k ≤ l.length ∧ t = .int .i64 (k : Int) ∧ Hid (Mat wr (w.heap.size + 1) ps (sms (l.take k))) ∧ Hid (At wr w.heap.size (pc zero9)) ∧ Hid (Gr w wr)) (fun t _ => l.length - (intOf t).toNat)
  case atStart => exact ⟨0, zero9, Nat.zero_le _, rfl, M0.out, R0.out, G0.out⟩
  case round =>
    clear M0 R0 G0
    obtain ⟨k, ps, hk, rfl, HM, HRz, HG⟩ := hrel
    by_cases h1 : k < l.length
    · obtain ⟨c0, c1, c2⟩ := (HR.out.below HG.out.out).cell h1
      have ix := HR.out.ix k h1
      have HT : Hid (l.take (k + 1) = l.take k ++ [l[k]]) := List.take_succ_eq_append_getElem h1
      have SB : Hid (Sme l[k]) := HS.out _ (List.getElem_mem h1)
      have SL : Hid (∀ i j, (sm (l.take k) i j).natAbs ≤ 70 * 2 ^ 108) := fun i j => Nat.le_trans (sm_bd (fun e he => HS.out e (List.mem_of_mem_take he)) i j) (Nat.mul_le_mul_right _ (by rw [List.length_take]; omega))
      obtain ⟨e, he⟩ : ∃ e, e = l[k] := ⟨_, rfl⟩
      rw [← he] at c0 c1 c2 HT SB
      clear he
      obtain ⟨lk, hlk⟩ : ∃ lk, lk = l.take k := ⟨_, rfl⟩
      rw [← hlk] at HM HT SL
      clear hlk
      have HM0 : Hid (Mat wr (w.heap.size + 1) ps (upd lk e 0)) := by rw [upd_zero]; exact HM
      obtain ⟨EB, hEB⟩ : ∃ EB, EB = wr.heap.size := ⟨_, rfl⟩
      have EA : At (wr.alloc (.cells #[.int .i64 e.x, .int .i64 e.y, .int .i64 e.q] 96)) EB e.cs := by rw [hEB]; exact At.new3 wr _ _ _ _
      have hEl : w.heap.size + 1 < EB := by rw [hEB]; exact HM0.out.at_.lt
      go_upto_region 5 with fail
      rw [← hEB]
      clear hEB c0 c1 c2
      have HM1 := hidb (HM0.out.alloc (.cells #[.int .i64 e.x, .int .i64 e.y, .int .i64 e.q] 96))
      have HRz1 := hidb (HRz.out.alloc (.cells #[.int .i64 e.x, .int .i64 e.y, .int .i64 e.q] 96))
      have HG1 := hidb (HG.out.alloc (.cells #[.int .i64 e.x, .int .i64 e.y, .int .i64 e.q] 96))
      generalize wr.alloc (.cells #[.int .i64 e.x, .int .i64 e.y, .int .i64 e.q] 96) = w2 at *
      obtain ⟨a0, a1, a2⟩ := EA.c3
      clear HM HRz HG HM0
      have HEA := hidb EA
      go_wp2
      go_loopw [17] (fun t wr => ∃ (i : Nat) (ps : List (Bool × Value)), i ≤ 3 ∧ t = .int .i64 (i : Int) ∧ Hid (Mat wr (w.heap.size + 1) ps (upd lk e (3 * i))) ∧ Hid (At wr w.heap.size (pc zero9)) ∧ Hid (At wr EB e.cs) ∧ Hid (Gr w wr)) (fun t _ => 3 - (intOf t).toNat)
      case atStart => exact ⟨0, ps, by omega, rfl, HM1.out, HRz1.out, HEA.out, HG1.out⟩
      case round =>
        clear HM1 HRz1 HEA HG1 a0 a1 a2 EA
        obtain ⟨i, ps, hi, rfl, HM, HRz, HEA, HG⟩ := hrel
        by_cases hi3 : i < 3
        · have iv : ∀ w, (Instr.index 96 (.agg #[.int .i64 e.x, .int .i64 e.y, .int .i64 e.q]) (.int .i64 (i : Int))).run Tryd.prog w = .ok (.int .i64 (cp e i)) w := fun w => ixV e i hi3 w
          have HCi := hidb (cp_bd SB.out i)
          have HI := hidb hi3
          obtain ⟨ci, hci⟩ : ∃ ci, ci = cp e i := ⟨_, rfl⟩
          rw [← hci] at iv HCi
          have HCe := hidb hci
          clear hci
          obtain ⟨a0, a1, a2⟩ := HEA.out.c3
          have hi' : (i : Int) < 3 := by omega
          go_wp2
          go_loopw [22] (fun t wr => ∃ (j : Nat) (ps : List (Bool × Value)), j ≤ 3 ∧ t = .int .i64 (j : Int) ∧ Hid (Mat wr (w.heap.size + 1) ps (upd lk e (3 * i + j))) ∧ Hid (At wr w.heap.size (pc zero9)) ∧ Hid (At wr EB e.cs) ∧ Hid (Gr w wr)) (fun t _ => 3 - (intOf t).toNat)
          case atStart => exact ⟨0, ps, by omega, rfl, HM.out, HRz.out, HEA.out, HG.out⟩
          case round =>
            clear HM HRz HEA HG a0 a1 a2 iv
            obtain ⟨j, ps, hj, rfl, HM, HRz, HEA, HG⟩ := hrel
            by_cases hj3 : j < 3
            · have jv : ∀ w, (Instr.index 96 (.agg #[.int .i64 e.x, .int .i64 e.y, .int .i64 e.q]) (.int .i64 (j : Int))).run Tryd.prog w = .ok (.int .i64 (cp e j)) w := fun w => ixV e j hj3 w
              have HCj := hidb (cp_bd SB.out j)
              obtain ⟨n, hn⟩ : ∃ n, n = 3 * i + j := ⟨_, rfl⟩
              have hn3 : n / 3 = i ∧ n % 3 = j := by omega
              have hn9 : n < 9 := by have := HI.out; omega
              have i1 : ∀ w', (Instr.indexAt 71 (.pointer (some ⟨w.heap.size + 1, 0, none⟩)) (.int .i64 (i : Int))).run Tryd.prog w' = .ok (.pointer (some ⟨w.heap.size + 1, i * 6, none⟩)) w' := fun w' => ixA _ i hi3 w'
              have i2 : ∀ w', (Instr.indexAt 69 (.pointer (some ⟨w.heap.size + 1, i * 6, none⟩)) (.int .i64 (j : Int))).run Tryd.prog w' = .ok (.pointer (some ⟨w.heap.size + 1, n * 2, none⟩)) w' := fun w' => by
                have := ixB (w.heap.size + 1) (i * 6) j hj3 w'
                rwa [show i * 6 + j * 2 = n * 2 by omega] at this
              have hnp : n < ps.length := by rw [HM.out.pl]; exact hn9
              rw [← hn] at HM
              have N0 := HM.out.nm n hnp (by rw [upd_len]; exact hn9)
              rw [upd_at lk e hn9 (by rw [upd_len]; exact hn9), hn3.1, hn3.2] at N0
              have hst := upd_step lk e hn9
              rw [hn3.1, hn3.2] at hst
              obtain ⟨cj, hcj⟩ : ∃ cj, cj = cp e j := ⟨_, rfl⟩
              rw [← hcj] at jv HCj hst
              rw [← HCe.out] at hst
              obtain ⟨z, hz⟩ : ∃ z, z = sm lk i j := ⟨_, rfl⟩
              have zb := SL.out i j
              rw [← hz] at N0 hst zb
              have HST := hidb hst
              have k1 : Wd ci := by have := HCi.out; unfold Wd; omega
              have k2 : Wd cj := by have := HCj.out; unfold Wd; omega
              have b1 : Bw ci := bw_lt HCi.out (by decide)
              have b2 : Bw cj := bw_lt HCj.out (by decide)
              have b3 : Bw (ci * cj) := bw_lt (bw_mul HCi.out HCj.out) (by decide)
              have b4 : Bw z := bw_lt (k := 120) (by omega) (by decide)
              have HNN : Hid (3 * i + (j + 1) = n + 1) := (by show _ = _; omega)
              clear hst hz hcj hn hn3 zb
              obtain ⟨⟨c0, c1⟩, f0, f1⟩ := HM.out.cell hnp
              go_upto_region 11 with fail
              go_region_law ((first
                | (go_simp; go_at_call 42; refine (ofN _ (by with_reducible assumption) _).mono ?_; rintro e w3 ⟨o1, t1, rfl, h1, hB1, hs1⟩; clear hs1; (with_reducible first | replace hB1 := undr hB1 | skip); replace HM := hidb (Mat.below hB1 HM.out); replace HRz := hidb (At.below hB1 HRz.out); replace HEA := hidb (At.below hB1 HEA.out); replace HG := hidb (Gr.step HG.out hB1); clear c0 c1 f0 f1; obtain ⟨⟨c0, c1⟩, f0, f1⟩ := HM.out.cell hnp)
                | (go_simp; go_at_call 44; refine (timesN (x := ?gx) (y := ?gy) ?gh ?gk ?gl ?gm).mono ?_; (case gh => ((with_reducible repeat' (first | assumption | refine Nm.drew ?_ | refine Nm.step (by assumption) ?_)); done)); (case gk => ((with_reducible repeat' (first | assumption | refine Nm.drew ?_ | refine Nm.step (by assumption) ?_)); done)); (case gl => with_reducible assumption); (case gm => with_reducible assumption); rintro e w3 ⟨o1, t1, rfl, h1, hB1, hs1⟩; clear hs1; (with_reducible first | replace hB1 := undr hB1 | skip); replace HM := hidb (Mat.below hB1 HM.out); replace HRz := hidb (At.below hB1 HRz.out); replace HEA := hidb (At.below hB1 HEA.out); replace HG := hidb (Gr.step HG.out hB1); clear c0 c1 f0 f1; obtain ⟨⟨c0, c1⟩, f0, f1⟩ := HM.out.cell hnp)
                | (go_simp; go_at_call 43; refine (plusN (x := ?kx) (y := ?ky) ?kh ?kk ?kl ?km).mono ?_; (case kh => ((with_reducible repeat' (first | assumption | refine Nm.drew ?_ | refine Nm.step (by assumption) ?_)); done)); (case kk => ((with_reducible repeat' (first | assumption | refine Nm.drew ?_ | refine Nm.step (by assumption) ?_)); done)); (case kl => with_reducible assumption); (case km => with_reducible assumption); rintro e w3 ⟨o1, t1, rfl, h1, hB1, hs1⟩; clear hs1; (with_reducible first | replace hB1 := undr hB1 | skip); replace HM := hidb (Mat.below hB1 HM.out); replace HRz := hidb (At.below hB1 HRz.out); replace HEA := hidb (At.below hB1 HEA.out); replace HG := hidb (Gr.step HG.out hB1); clear c0 c1 f0 f1; obtain ⟨⟨c0, c1⟩, f0, f1⟩ := HM.out.cell hnp; obtain ⟨ad5, L5, cap5, he5⟩ := h1.form; rw [he5] at h1 ⊢; have HT5 := hidb h1; clear h1 he5)))
              all_goals
                have hm2 := HM.out.put n o1 (.slice ad5 L5 cap5) (z + ci * cj) HT5.out
                rw [HST.out, ← HNN.out] at hm2
                have HM2 := hidb hm2
                clear hm2
                have HR2 := hidb ((HRz.out.skip (c := w.heap.size + 1) (by omega) (n * 2) (.bool o1)).skip (c := w.heap.size + 1) (by omega) (n * 2 + 1) (.slice ad5 L5 cap5))
                have HE2 := hidb ((HEA.out.skip (c := w.heap.size + 1) (by omega) (n * 2) (.bool o1)).skip (c := w.heap.size + 1) (by omega) (n * 2 + 1) (.slice ad5 L5 cap5))
                have HG2 := hidb ((HG.out.set (c := w.heap.size + 1) (by omega) (n * 2) (.bool o1)).set (c := w.heap.size + 1) (by omega) (n * 2 + 1) (.slice ad5 L5 cap5))
                clear HM HRz HEA HG c0 c1 f0 f1 i1 i2 jv N0
                go_wp2
                go_roundw
              all_goals first
                | (case rel => exact ⟨j + 1, _, by omega, by go_num, HM2.out, HR2.out, HE2.out, HG2.out⟩)
                | (case measure => simp [intOf]; omega)
            · have hj : j = 3 := by omega
              subst hj
              have HM2 : Hid (Mat wr (w.heap.size + 1) ps (upd lk e (3 * (i + 1)))) := by rw [show 3 * (i + 1) = 3 * i + 3 by omega]; exact HM
              clear HM
              go_wp2
              go_roundw
              case rel => exact ⟨i + 1, ps, by omega, by go_num, HM2.out, HRz.out, HEA.out, HG.out⟩
              case measure => simp [intOf]; omega
        · have hi3' : i = 3 := by omega
          subst hi3'
          have HM2 : Hid (Mat wr (w.heap.size + 1) ps (sms (l.take (k + 1)))) := by rw [HT.out, ← upd_nine]; exact HM
          clear HM
          go_wp2
          go_roundw
          case rel => exact ⟨k + 1, ps, by omega, by go_num, HM2.out, HRz.out, HG.out⟩
          case measure => simp [intOf]; omega
    · have hkl : k = l.length := by omega
      rw [hkl, List.take_of_length_le (Nat.le_refl _)] at HM
      clear hkl
      obtain ⟨d, hu, hd⟩ := undN
      have hl18 : (pc ps).length = 18 := by rw [pc_len, HM.out.pl]
      have HL := hidb hl18
      have HU := hidb hu
      have HD := hidb hd
      clear hl18 hu hd
      go_wp2_with (first
        | refine wpList_load_mid rfl 71 _ rfl (w.heap.size + 1) 0 rfl (pc ps) d HM.out.at_.range HU.out HD.out (by rw [HL.out]; exact infoN) ?_
        | refine wpList_store_mid rfl 71 _ _ rfl w.heap.size 0 (pc ps).toArray rfl rfl (HRz.out.there (by rw [List.size_toArray, HL.out]; decide)) (by rw [List.size_toArray, HL.out]; exact infoN) (all_oneCell_toArray HM.out.ones) ?_)
      have hr := run_loadVar_mid (P := Tryd.prog) (wr.setCells w.heap.size 0 (pc ps)) w.heap.size 0 71 (pc ps) d (World.rangeAt_setCells_same _ _ _ _ (HRz.out.there (by rw [HL.out]; decide))) HU.out HD.out (by rw [HL.out]; exact infoN)
      obtain ⟨mz, hmz⟩ : ∃ m, wr.cell? ⟨w.heap.size, 0, none⟩ = some (.bool m) := ⟨false, (HRz.out.1 0 (by decide)).1⟩
      refine bodyPost_ret (v := .agg (pc ps).toArray) ?_ rfl ⟨ps, rfl, HM.out.pl, fun t h h' => ⟨(HM.out.nm t h h').1.setCs hmz _, (HM.out.nm t h h').2⟩, Gr.setCs (W := wr) (Nat.le_refl _) _ _ HG.out, by rw [size_setCs]; exact HRz.out.lt⟩
      simp [results, Tryd.results22, Act.put]
      exact hr
end Go.Proofs.YtehkonddgiakaaaDoor
