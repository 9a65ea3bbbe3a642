/-
  mercatorref4.StreamsOf, StrahlerOf.
-/
import Derived.Test.YtlhligeicnejbaaDoorQDsN
import Derived.Test.YtlhligeicnejbaaDoorQGaG
import Derived.Test.YtlhligeicnejbaaDoorQDrX
import Derived.Deep.LoopGhost
namespace Go.Proofs.YtlhligeicnejbaaDoor
open Go.RowKit
attribute [local go_sem ↓] Go.wp_at_zero Go.wp_at_succ

/-- What lies in memory while the streams are told. -/
structure SR (w W : World) (T TO B ON INN : Nat) (ts : List Value) (Lt G : List Int) (Bs : List Bool) (Is : List Int) : Prop where
  t : At W T ts
  o : At W TO (ir Lt)
  a : At W B (ir G)
  s : At W ON (br Bs)
  i : At W INN (ir Is)
  gr : Gr w W
  ne : (T ≠ ON ∧ TO ≠ ON ∧ B ≠ ON) ∧ (T ≠ INN ∧ TO ≠ INN ∧ B ≠ INN) ∧ ON ≠ INN ∧ w.heap.size ≤ ON ∧ w.heap.size ≤ INN
section
variable {w W : World} {T TO B ON INN : Nat} {ts : List Value} {Lt G : List Int} {Bs : List Bool} {Is : List Int}
theorem SR.putS (h : SR w W T TO B ON INN ts Lt G Bs Is) (k : Nat) (x : Bool) : SR w (W.setCell ⟨ON, k, none⟩ (.bool x)) T TO B ON INN ts Lt G (Bs.set k x) Is := by
  obtain ⟨⟨a1, a2, a3⟩, -, b1, b2, b3⟩ := h.ne
  refine ⟨h.t.skip (Ne.symm a1) _ _, h.o.skip (Ne.symm a2) _ _, h.a.skip (Ne.symm a3) _ _, ?_, h.i.skip b1 _ _, h.gr.set b2 _ _, h.ne⟩
  rw [← br_set]; exact h.s.put k _
theorem SR.putI (h : SR w W T TO B ON INN ts Lt G Bs Is) (k : Nat) (x : Int) : SR w (W.setCell ⟨INN, k, none⟩ (.int .i64 x)) T TO B ON INN ts Lt G Bs (Is.set k x) := by
  obtain ⟨-, ⟨a1, a2, a3⟩, b1, b2, b3⟩ := h.ne
  refine ⟨h.t.skip (Ne.symm a1) _ _, h.o.skip (Ne.symm a2) _ _, h.a.skip (Ne.symm a3) _ _, h.s.skip (Ne.symm b1) _ _, ?_, h.gr.set b3 _ _, h.ne⟩
  rw [← ir_set]; exact h.i.put k _
theorem SR.drew (h : SR w W T TO B ON INN ts Lt G Bs Is) : SR w W.drew T TO B ON INN ts Lt G Bs Is := ⟨h.t, h.o, h.a, h.s, h.i, h.gr.drew, h.ne⟩
end
theorem inK_up' {m n : Nat} {l : List Int} {q : Int} {k : Nat} (h : stB m n l q k = false) (c : Nat) : inK m n l q (k + 1) c = inK m n l q k c := by
  rw [inK_succ, flB_no m n l q h]; simp
theorem inK_at' {m n : Nat} {l : List Int} {q : Int} {k : Nat} (h : stB m n l q k = true) (c : Nat) : inK m n l q (k + 1) c = if c = tw m n l k ∧ tw m n l k ≠ k then inK m n l q k c + 1 else inK m n l q k c := by
  rw [inK_succ, flB_tw m n l q h]
  by_cases e : c = tw m n l k ∧ tw m n l k ≠ k
  · rw [if_pos e, if_pos (decide_eq_true e)]
  · rw [if_neg e, if_neg (by simpa using e)]; rfl
/-- As far as the first k were looked at. -/
def onK (m n : Nat) (l : List Int) (q : Int) (k c : Nat) : Bool := decide (c < k) && stB m n l q c
theorem onK_up {m n : Nat} {l : List Int} {q : Int} {k : Nat} (c : Nat) : onK m n l q (k + 1) c = if c = k then stB m n l q k else onK m n l q k c := by
  unfold onK
  by_cases e : c = k
  · subst e; simp
  · rw [if_neg e]
    by_cases e2 : c < k
    · simp [e2, show c < k + 1 by omega]
    · simp [e2, show ¬ c < k + 1 by omega]
theorem gaL_one (m n : Nat) (l : List Int) (r : List Int) (h : ∀ i, i < l.length → gl r i = 1) : gaL m n l (gl r) = iF l.length (gaV m n l (fun _ => 1)) := by
  unfold gaL iF
  refine List.map_congr_left (fun c _ => ?_)
  unfold gaV
  exact smF_congr (fun i hi => by rw [h i hi])
set_option maxRecDepth 4000 in
set_option maxHeartbeats 16000000 in
theorem streamsRef_any {m n TO : Nat} {l Lt : List Int} (ok : Ok l m n) (q : Int) (v1 v3 : Value) (w : World) (hT : At w TO (ir Lt)) (hLt : TwL m n l Lt) : Calls Tryd.prog 11 #[.agg #[v1, .slice (some ⟨TO, 0, none⟩) l.length l.length, v3], .int .i64 q] w fun e w' => ∃ ON INN, e = .returned (.tuple #[.slice (some ⟨ON, 0, none⟩) l.length l.length, .slice (some ⟨INN, 0, none⟩) l.length l.length]) ∧ At w' ON (br (bF l.length (stB m n l q))) ∧ At w' INN (ir (iF l.length (fun c => (inK m n l q l.length c : Int)))) ∧ Gr w w' := by
  have hlen := ok.len_le
  have hN1 : 1 ≤ l.length := by rw [ok.len]; exact Nat.mul_le_mul ok.m1 ok.n1
  obtain ⟨CS, hCS, mk⟩ := made_run l.length (by omega)
  obtain ⟨CB, hCB, mkB⟩ := made_runB l.length (by omega)
  have HCS := hidb (show CB.toList = br (List.replicate l.length false) ∧ CS.toList = ir (List.replicate l.length 0) from ⟨hCB, hCS⟩)
  have HGt := hidb (fun W (hTW : At W TO (ir Lt)) ra rb rcap r (hr : ISl W ra rb 0 rcap r) (hrl : r.length = l.length) (h1 : ∀ i, i < l.length → gl r i = 1) => gatherOf_any ok v1 v3 W hTW hLt hr hrl (fun i hi => by rw [h1 i hi]; decide))
  have HOne := hidb (gaL_one m n l)
  have HTl : Hid (∀ c, c < l.length → tw m n l c < l.length) := fun c hc => tw_lt m n l ok.m1 ok.len hc
  have HL := hidb (show 1 ≤ l.length ∧ l.length ≤ 16384 from ⟨hN1, hlen⟩)
  have HLt := hidb hLt
  have A0 := hidb (At.new3 w v1 (.slice (some ⟨TO, 0, none⟩) l.length l.length) v3 38)
  have G0 := hidb ((Gr.refl w).alloc (.cells #[v1, .slice (some ⟨TO, 0, none⟩) l.length l.length, v3] 38))
  have HT := hidb (show At (w.alloc (.cells #[v1, .slice (some ⟨TO, 0, none⟩) l.length l.length, v3] 38)) TO (ir Lt) from hT.alloc _)
  have HTO := hidb hT.lt
  obtain ⟨N, hN⟩ : ∃ N, N = l.length := ⟨_, rfl⟩
  have HN := hidb hN
  rw [← hN] at mk mkB HCS HGt HOne HTl HL A0 G0 HT ⊢
  clear hT hLt ok hlen hN1 hN hCS hCB
  go_enter Tryd.func11, Tryd.ntmps11
  go_upto_region 1 with fail
  generalize w.alloc (.cells #[v1, .slice (some ⟨TO, 0, none⟩) N N, v3] 38) = w1 at *
  obtain ⟨T, hTT⟩ : ∃ z, z = w.heap.size := ⟨_, rfl⟩
  rw [← hTT] at A0 ⊢
  have HTT := hidb hTT
  clear hTT
  obtain ⟨t0, t1, t2⟩ := A0.out.c3
  go_upto_region 3 with fail
  have E0 : Hid (At (w1.alloc (.cells CS 3)) T [v1, .slice (some ⟨TO, 0, none⟩) N N, v3] ∧ At (w1.alloc (.cells CS 3)) TO (ir Lt) ∧ At (w1.alloc (.cells CS 3)) w1.heap.size (ir (iF N (fun c => if c < 0 then 1 else 0))) ∧ Gr w (w1.alloc (.cells CS 3))) := by
    refine ⟨A0.out.alloc _, HT.out.alloc _, ?_, G0.out.alloc _⟩
    rw [← iF_congr (f := fun _ => 0) (g := fun c => if c < 0 then 1 else 0) (fun k _ => by simp), ← iF_rep, ← HCS.out.2]
    exact At.newArr _ _ _
  obtain ⟨O1, hO1⟩ : ∃ z, z = w1.heap.size := ⟨_, rfl⟩
  have HO1 := hidb (show T < O1 ∧ TO < O1 ∧ w.heap.size ≤ O1 from ⟨by rw [hO1]; exact A0.out.lt, by rw [hO1]; exact HT.out.lt, by rw [hO1]; exact G0.out.out.size⟩)
  rw [← hO1] at E0 ⊢
  clear hO1 t0 t1 t2 A0 HT G0
  generalize w1.alloc (.cells CS 3) = w2 at *
  go_wp2
  go_loopw [8] (fun t wr => ∃ k : Nat, k ≤ N ∧ t = .int .i64 (k : Int) ∧ Hid (At wr T [v1, .slice (some ⟨TO, 0, none⟩) N N, v3] ∧ At wr TO (ir Lt) ∧ At wr O1 (ir (iF N (fun c => if c < k then 1 else 0))) ∧ Gr w wr)) (fun t _ => N - (intOf t).toNat)
  case atStart => exact ⟨0, Nat.zero_le _, rfl, E0⟩
  case round =>
    clear E0
    obtain ⟨k, hk, rfl, E⟩ := hrel
    by_cases h1 : ¬ k < N
    · have h1' : ¬ (k : Int) < (N : Int) := by omega
      have E1 : Hid (At wr T [v1, .slice (some ⟨TO, 0, none⟩) N N, v3] ∧ At wr TO (ir Lt) ∧ At wr O1 (ir (iF N (fun _ => 1))) ∧ Gr w wr) := by
        refine ⟨E.out.1, E.out.2.1, ?_, E.out.2.2.2⟩
        rw [← iF_congr (f := fun c => if c < k then (1 : Int) else 0) (g := fun _ => 1) (fun c hc => by rw [if_pos (by omega)])]
        exact E.out.2.2.1
      have HG1 := hidb (HGt.out wr E1.out.2.1 _ _ N _ (at_isl N E1.out.2.2.1) (iF_len N _) (fun i hi => gl_iF _ hi))
      rw [HOne.out _ (fun i hi => gl_iF _ hi)] at HG1
      obtain ⟨t0, t1, t2⟩ := E1.out.1.c3
      clear h1 E HGt HOne
      go_wp2_with fail
      refine HG1.out.mono ?_
      rintro e w3 ⟨B, rfl, hB, hBs, hG3⟩
      have F0 := hidb (show At w3 T [v1, .slice (some ⟨TO, 0, none⟩) N N, v3] ∧ At w3 TO (ir Lt) ∧ At w3 B (ir (iF N (gaV m n l (fun _ => 1)))) ∧ Gr w w3 from ⟨At.below hG3.out E1.out.1, At.below hG3.out E1.out.2.1, hB, Gr.step E1.out.2.2.2 hG3.out⟩)
      clear hB hBs hG3 HG1 E1 t0 t1 t2
      go_upto_region 10 with fail
      have F1 : Hid (SR w ((w3.alloc (.cells CB 4)).alloc (.cells CS 3)) T TO B w3.heap.size (w3.heap.size + 1) [v1, .slice (some ⟨TO, 0, none⟩) N N, v3] Lt (iF N (gaV m n l (fun _ => 1))) (bF N (onK m n l q 0)) (iF N (fun c => (inK m n l q 0 c : Int)))) := by
        have l1 := F0.out.1.lt
        have l2 := F0.out.2.1.lt
        have l3 := F0.out.2.2.1.lt
        have l4 := F0.out.2.2.2.out.size
        refine ⟨(F0.out.1.alloc _).alloc _, (F0.out.2.1.alloc _).alloc _, (F0.out.2.2.1.alloc _).alloc _, ?_, ?_, (F0.out.2.2.2.alloc _).alloc _, ⟨by omega, by omega, by omega⟩, ⟨by omega, by omega, by omega⟩, by omega, by omega, by omega⟩
        · rw [← bF_congr (f := fun _ => false) (g := onK m n l q 0) (fun k _ => by simp [onK]), ← bF_rep, ← HCS.out.1]
          exact (At.newArr _ _ _).alloc _
        · rw [← iF_congr (f := fun _ => 0) (g := fun c => (inK m n l q 0 c : Int)) (fun k _ => by simp [inK]), ← iF_rep, ← HCS.out.2]
          exact At.nxArr _ _ _ _
      obtain ⟨ON, hON⟩ : ∃ z, z = w3.heap.size := ⟨_, rfl⟩
      obtain ⟨INN, hINN⟩ : ∃ z, z = w3.heap.size + 1 := ⟨_, rfl⟩
      rw [← hINN, ← hON] at F1
      rw [← hINN, ← hON]
      clear hON hINN F0
      generalize (w3.alloc (.cells CB 4)).alloc (.cells CS 3) = w4 at *
      generalize hG : iF N (gaV m n l (fun _ => 1)) = G at F1
      have HGv : Hid (G = iF N (gaV m n l (fun _ => 1))) := hG.symm
      clear hG mk mkB HCS
      go_wp2
      go_loopw [12] (fun t wr => ∃ k : Nat, k ≤ N ∧ t = .int .i64 (k : Int) ∧ Hid (SR w wr T TO B ON INN [v1, .slice (some ⟨TO, 0, none⟩) N N, v3] Lt G (bF N (onK m n l q k)) (iF N (fun c => (inK m n l q k c : Int))))) (fun t _ => N - (intOf t).toNat)
      case atStart => exact ⟨0, Nat.zero_le _, rfl, F1⟩
      case round =>
        clear F1
        obtain ⟨k, hk, rfl, E⟩ := hrel
        by_cases h1 : ¬ k < N
        · have h1' : ¬ (k : Int) < (N : Int) := by omega
          have hset : Hid (bF N (onK m n l q k) = bF N (stB m n l q)) := bF_congr (fun c hc => by simp [onK, show c < k by omega])
          have hkN : k = N := by omega
          rw [hset.out, hkN] at E
          have HZ := hidb (show At wr ON (br (bF N (stB m n l q))) ∧ At wr INN (ir (iF N (fun c => (inK m n l q N c : Int)))) ∧ Gr w wr from ⟨E.out.s, E.out.i, E.out.gr⟩)
          clear h1 hset hkN E
          go_wp2
          go_ret2
          exact ⟨ON, INN, rfl, HZ.out⟩
        · have h1' : (k : Int) < (N : Int) := by omega
          have hkN : k < N := by omega
          have e1 : IntKind.i64.wrap ((k : Int) + 1) = ((k + 1 : Nat) : Int) := by rw [show (k : Int) + 1 = ((k + 1 : Nat) : Int) by omega]; exact wrap_in (by have := HL.out; omega) (by have := HL.out; omega)
          have ixB := iindex B 0 N N k hkN
          have ixT := iindex TO 0 N N k hkN
          rw [Nat.zero_add] at ixB ixT
          have ixO := bindex ON N N k hkN
          have H1 := hidb hkN
          have cB : wr.cell? ⟨B, k, none⟩ = some (.int .i64 (gaV m n l (fun _ => 1) k)) := by have := E.out.a; rw [HGv.out] at this; exact (this.gi hkN).1
          obtain ⟨cS, fS⟩ := E.out.s.gb hkN
          have hst : stB m n l q k = decide (q ≤ gaV m n l (fun _ => 1) k) := rfl
          have hset : Hid ((bF N (onK m n l q k)).set k (stB m n l q k) = bF N (onK m n l q (k + 1))) := bF_set _ _ _ (fun c _ => by rw [onK_up])
          have E2 := hidb (E.out.putS k (stB m n l q k))
          rw [hset.out] at E2
          rw [hst] at E2
          have HSt := hidb hst
          obtain ⟨t0, t1, t2⟩ := E.out.t.c3
          clear hst hset h1 hkN E
          generalize onK m n l q k k = bk at *
          generalize gaV m n l (fun _ => 1) k = y at *
          go_upto_region 14 with fail
          generalize hW5 : wr.setCell ⟨ON, k, none⟩ (.bool (decide (q ≤ y))) = w5 at *
          clear hW5 t0 t1 t2 cB cS fS
          obtain ⟨t0, t1, t2⟩ := E2.out.t.c3
          have cS := (E2.out.s.gb H1.out).1
          rw [show onK m n l q (k + 1) k = decide (q ≤ y) by rw [onK_up, if_pos rfl, HSt.out]] at cS
          by_cases hq : q ≤ y
          · have HSy : Hid (stB m n l q k = true) := by rw [HSt.out]; exact decide_eq_true hq
            rw [decide_eq_true hq] at cS
            have cT := (E2.out.o.get (j := k) (by rw [HLt.out.1, ← HN.out]; exact H1.out)).1
            rw [gl_get (by rw [HLt.out.1, ← HN.out]; exact H1.out), HLt.out.2 k (by rw [← HN.out]; exact H1.out)] at cT
            have ht := HTl.out k H1.out
            generalize htk : tw m n l k = t at *
            have HTk := hidb htk
            clear htk hq
            by_cases hf : t = k
            · have hset2 : Hid (iF N (fun c => (inK m n l q k c : Int)) = iF N (fun c => (inK m n l q (k + 1) c : Int))) := iF_congr (fun c _ => by rw [inK_at' HSy.out, HTk.out, if_neg (fun x => x.2 hf)])
              rw [hset2.out] at E2
              rw [hf] at cT
              clear hf ht hset2
              go_wp2
              go_roundw
              case rel => exact ⟨k + 1, H1.out, by go_num, E2⟩
              case measure => have := H1.out; simp [intOf]; omega
            · have hset2 : Hid ((iF N (fun c => (inK m n l q k c : Int))).set t ((inK m n l q k t : Int) + 1) = iF N (fun c => (inK m n l q (k + 1) c : Int))) := iF_set _ _ _ (fun c _ => by
                rw [inK_at' HSy.out, HTk.out]
                by_cases e : c = t
                · rw [if_pos ⟨e, hf⟩, if_pos e, e]; omega
                · rw [if_neg (fun x => e x.1), if_neg e])
              have ixI := iindex INN 0 N N t ht
              rw [Nat.zero_add] at ixI
              have hin := inK_le m n l q k t
              obtain ⟨yN, hyN, e2⟩ : ∃ z : Int, z = (inK m n l q k t : Int) + 1 ∧ IntKind.i64.wrap ((inK m n l q k t : Int) + 1) = z := ⟨_, rfl, wrap_in (by omega) (by have := HL.out; have := H1.out; omega)⟩
              obtain ⟨cI, fI⟩ := E2.out.i.gi ht
              have E3 := hidb (E2.out.putI t yN)
              rw [hyN, hset2.out, ← hyN] at E3
              generalize (inK m n l q k t : Int) = yk at *
              have hf' : ¬ (t : Int) = (k : Int) := by omega
              clear hf ht hset2 hin hyN E2
              go_wp2
              go_roundw
              case rel => exact ⟨k + 1, H1.out, by go_num, E3⟩
              case measure => have := H1.out; simp [intOf]; omega
          · have HSy : Hid (stB m n l q k = false) := by rw [HSt.out]; exact decide_eq_false hq
            rw [decide_eq_false hq] at cS
            have hset2 : Hid (iF N (fun c => (inK m n l q k c : Int)) = iF N (fun c => (inK m n l q (k + 1) c : Int))) := iF_congr (fun c _ => by rw [inK_up' HSy.out])
            rw [hset2.out] at E2
            clear hq hset2
            go_wp2
            go_roundw
            case rel => exact ⟨k + 1, H1.out, by go_num, E2⟩
            case measure => have := H1.out; simp [intOf]; omega
    · have h1' : (k : Int) < (N : Int) := by omega
      have hkN : k < N := by omega
      have H1 := hidb hkN
      have e1 : IntKind.i64.wrap ((k : Int) + 1) = ((k + 1 : Nat) : Int) := by rw [show (k : Int) + 1 = ((k + 1 : Nat) : Int) by omega]; exact wrap_in (by have := HL.out; omega) (by have := HL.out; omega)
      have ixO := iindex O1 0 N N k hkN
      rw [Nat.zero_add] at ixO
      obtain ⟨cO, fO⟩ := E.out.2.2.1.gi hkN
      have hset : Hid ((iF N (fun c => if c < k then (1 : Int) else 0)).set k 1 = iF N (fun c => if c < k + 1 then 1 else 0)) := iF_set _ _ _ (fun c _ => by
        by_cases e : c = k
        · rw [if_pos e, if_pos (by omega)]
        · by_cases e2 : c < k
          · rw [if_neg e, if_pos (by omega), if_pos e2]
          · rw [if_neg e, if_neg (by omega), if_neg e2])
      have hn := HO1.out
      have E2 : Hid (At (wr.setCell ⟨O1, k, none⟩ (.int .i64 1)) T [v1, .slice (some ⟨TO, 0, none⟩) N N, v3] ∧ At (wr.setCell ⟨O1, k, none⟩ (.int .i64 1)) TO (ir Lt) ∧ At (wr.setCell ⟨O1, k, none⟩ (.int .i64 1)) O1 (ir (iF N (fun c => if c < k + 1 then 1 else 0))) ∧ Gr w (wr.setCell ⟨O1, k, none⟩ (.int .i64 1))) := by
        refine ⟨E.out.1.skip (by omega) _ _, E.out.2.1.skip (by omega) _ _, ?_, E.out.2.2.2.set hn.2.2 _ _⟩
        rw [← hset.out, ← ir_set]
        exact E.out.2.2.1.put k _
      clear h1 hkN hset E hn
      go_wp2
      go_roundw
      case rel => exact ⟨k + 1, H1.out, by go_num, E2⟩
      case measure => have := H1.out; simp [intOf]; omega
end Go.Proofs.YtlhligeicnejbaaDoor
