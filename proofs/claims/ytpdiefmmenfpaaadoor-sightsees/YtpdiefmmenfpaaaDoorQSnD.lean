/-
  mercatorref4.withStop, where there are others.
-/
import Derived.Test.YtpdiefmmenfpaaaDoorQSnC
namespace Go.Proofs.YtpdiefmmenfpaaaDoor
open Go.RowKit
attribute [local go_sem ↓] Go.wp_at_zero Go.wp_at_succ

/-- A slice of stops that is not empty. -/
def TV (W : World) (G : Nat × Nat → Int) (v : Value) (L : List (Nat × Nat)) : Prop := ∃ b cap, v = .slice (some ⟨b, 0, none⟩) L.length cap ∧ TSl W G (some ⟨b, 0, none⟩) b cap L ∧ L.length ≤ cap
theorem TV.of {w : World} {G : Nat × Nat → Int} {base : Nat} {v : Value} {n : Nat} {L : List (Nat × Nat)} (h : w.ownsRow base 64 3 v n (tr G L)) (hn : L.length = n) (h0 : 1 ≤ n) : TV w G v L := by
  obtain ⟨ad, b, cap, rfl, hT⟩ := own_tsl h hn
  obtain ⟨rfl, hc⟩ := hT.ad 0 (by omega)
  exact ⟨b, cap, rfl, hT, hc⟩
theorem tslice_at (ad : Option Addr) (M cap : Nat) (_hc : M ≤ cap) : ∃ ad', ∀ w, (Instr.slice 54 (.slice ad M cap) (some (.int .i64 (M : Int))) none none).run Tryd.prog w = .ok (.slice ad' 0 (cap - M)) w := by
  refine ⟨if cap = M then ad else ad.map (·.add (M * 3)), fun w => ?_⟩
  have hu : Tryd.prog.underlying 54 = some (.slice (Tryd.prog.elem 54)) := by kernel_rfl
  have hs : (sizeOf (Tryd.prog.elem 54)).run Tryd.prog w = .ok 3 w := by kernel_rfl
  rw [run_slice_l w 54 _ _ _ hu .i64 _ (by omega) (by omega), hs]
  simp [Result.andThen, sliced]
theorem wpList_t0 {ops : Array Oper} {rest : List Oper} {o : Oper} {a : Act} {Q : Exit → Act → World → Prop} (W : World) (g n c cx : Nat) (ad : Option Addr) (s x : Operand) (hgd : o.guard = none)
    (ho : o.op = .call { callee := .builtin .append, args := #[s, x], argTypes := #[54, 54] }) (hs : a.eval s = .slice (some ⟨g, 0, none⟩) n c) (hx : a.eval x = .slice ad 0 cx) (hle : n ≤ c)
    (h : wpList Tryd.prog ops Q rest (a.put o.dst (.slice (some ⟨g, 0, none⟩) n c)) W) : wpList Tryd.prog ops Q (o :: rest) a W := by
  refine wpList_plain hgd fun _ hK => ?_
  have hr := app_none g n c ad cx hle o.type W
  unfold Oper.wp execOp
  simp only [ho, resolve, invoke, builtin, Sem.run_bind, Sem.run_pure, Result.andThen_ok, List.map_toArray, List.map_cons, List.map_nil, hs, hx, hr]
  exact hK _ _ h
set_option maxRecDepth 4000 in
set_option maxHeartbeats 16000000 in
theorem withStop_any (G : Nat × Nat → Int) {b cap : Nat} {L : List (Nat × Nat)} {s : Nat × Nat} (hL : L.length ≤ 100000) (hs1 : s.1 ≤ 1000) (hs2 : s.2 ≤ 1000) (hLb : ∀ j, j < L.length → (tx L j).1 ≤ 1000 ∧ (tx L j).2 ≤ 1000) (aI bI cI : Int) (ha : aI = (s.1 : Int)) (hb : bI = (s.2 : Int)) (hc : cI = G s) (w : World) (h : TSl w G (some ⟨b, 0, none⟩) b cap L) (hcap : L.length ≤ cap) (h0 : 1 ≤ L.length) : Calls Tryd.prog 48 #[.slice (some ⟨b, 0, none⟩) L.length cap, .agg #[.int .i64 aI, .int .i64 bI, .int .i64 cI]] w fun e w' => ∃ v, e = .returned v ∧ TV w' G v (wsP L s) ∧ Gr w w' := by
  have E0 : Hid (WS w (w.alloc (.cells #[.int .i64 aI, .int .i64 bI, .int .i64 cI] 64)) G [.int .i64 aI, .int .i64 bI, .int .i64 cI] (w.heap.size + 1) 0 (.slice none 0 0) (L.take 0)) := ⟨At.new3 _ _ _ _ _, (Gr.refl w).alloc _, World.ownsRow_nil _ _ _ _, ⟨by omega, by simp⟩, by simp⟩
  have HT := hidb (fun (W : World) B (h : At W B [.int .i64 aI, .int .i64 bI, .int .i64 cI]) => Tcs_at (G := G) (p := s) (aI, bI, cI) ha hb hc h)
  have HTi := hidb (fun (W : World) B (i : Nat) (p q r : Int) (h1 : p = ((tx L i).1 : Int)) (h2 : q = ((tx L i).2 : Int)) (h3 : r = G (tx L i)) (h : At W B [.int .i64 p, .int .i64 q, .int .i64 r]) => Tcs_at (G := G) (p := tx L i) (p, q, r) h1 h2 h3 h)
  have HS := hidb (fun (W : World) (hG : Gr w W) => h.below hG.out)
  have HIx := hidb h.ix
  have HLb := hidb hLb
  have HB := hidb (show (aI = (s.1 : Int) ∧ bI = (s.2 : Int)) ∧ s.1 ≤ 1000 ∧ s.2 ≤ 1000 from ⟨⟨ha, hb⟩, hs1, hs2⟩)
  obtain ⟨adE, SE⟩ := tslice_at (some ⟨b, 0, none⟩) L.length cap hcap
  have HSl := hidb (fun i (hi : i < L.length) => tslice b L.length cap i hi hcap)
  have HWs := hidb (wsP_at L s)
  obtain ⟨M, hM⟩ : ∃ M, M = L.length := ⟨_, rfl⟩
  have HM := hidb hM
  have HMl := hidb (show M ≤ 100000 ∧ 1 ≤ M ∧ M ≤ cap by omega)
  have HTl := hidb (show ∀ i, i < M → L.take (i + 1) = L.take i ++ [tx L i] from fun i hi => by rw [List.take_succ_eq_append_getElem (by omega), tx_get])
  rw [← hM] at HIx HLb HSl SE HWs ⊢
  clear ha hb hc hs1 hs2 hL hLb hcap h0 hM h
  go_enter Tryd.func48, Tryd.ntmps48
  go_wp2
  go_loopw [5, 6] (fun v t wr => ∃ i : Nat, i ≤ M ∧ t = .int .i64 (i : Int) ∧ Hid (WS w wr G [.int .i64 aI, .int .i64 bI, .int .i64 cI] (w.heap.size + 1) i v (L.take i)) ∧ Hid (∀ j, j < i → ltS (tx L j) s)) (fun _ t _ => M - (intOf t).toNat)
  case atStart => exact ⟨0, Nat.zero_le _, rfl, E0, hidb (fun j hj => by omega)⟩
  case round =>
    clear E0
    obtain ⟨i, hi, rfl, E, HP⟩ := hrel
    by_cases h1 : i < M
    · have h1' : (i : Int) < (M : Int) := by omega
      have d1 : decide ((i : Int) < (M : Int)) = true := decide_eq_true h1'
      have H1 := hidb h1
      have e5 : IntKind.i64.wrap ((i : Int) + 1) = ((i + 1 : Nat) : Int) := by rw [show (i : Int) + 1 = ((i + 1 : Nat) : Int) by omega]; exact wrap_in (by have := HMl.out; omega) (by have := HMl.out; omega)
      have ix := HIx.out i h1
      obtain ⟨⟨c0, c1, c2⟩, -⟩ := (HS.out _ E.out.gr).row i (by rw [← HM.out]; exact h1)
      have hbb := HLb.out i h1
      obtain ⟨pI, hpI⟩ : ∃ z : Int, z = ((tx L i).1 : Int) := ⟨_, rfl⟩
      obtain ⟨qI, hqI⟩ : ∃ z : Int, z = ((tx L i).2 : Int) := ⟨_, rfl⟩
      obtain ⟨rI, hrI⟩ : ∃ z : Int, z = G (tx L i) := ⟨_, rfl⟩
      rw [← hpI] at c0
      rw [← hqI] at c1
      rw [← hrI] at c2
      have n1 : pI * bI = (((tx L i).1 * s.2 : Nat) : Int) := by rw [hpI, HB.out.1.2, Int.natCast_mul]
      have n2 : aI * qI = ((s.1 * (tx L i).2 : Nat) : Int) := by rw [hqI, HB.out.1.1, Int.natCast_mul]
      have b1 : (tx L i).1 * s.2 ≤ 1000 * 1000 := Nat.mul_le_mul hbb.1 HB.out.2.2
      have b2 : s.1 * (tx L i).2 ≤ 1000 * 1000 := Nat.mul_le_mul HB.out.2.1 hbb.2
      obtain ⟨m1, hm1, e1⟩ : ∃ z : Int, z = pI * bI ∧ IntKind.i64.wrap (pI * bI) = z := ⟨_, rfl, by rw [n1]; exact wrap_in (by omega) (by omega)⟩
      obtain ⟨m2, hm2, e2⟩ : ∃ z : Int, z = aI * qI ∧ IntKind.i64.wrap (aI * qI) = z := ⟨_, rfl, by rw [n2]; exact wrap_in (by omega) (by omega)⟩
      have hlt : ltS (tx L i) s ↔ m1 < m2 := by unfold ltS; rw [hm1, hm2, n1, n2]; omega
      have heq : eqS (tx L i) s ↔ m1 = m2 := by unfold eqS; rw [hm1, hm2, n1, n2]; omega
      have HV := hidb (show pI = ((tx L i).1 : Int) ∧ qI = ((tx L i).2 : Int) ∧ rI = G (tx L i) from ⟨hpI, hqI, hrI⟩)
      have HW := hidb (HWs.out i hi HP.out)
      obtain ⟨z0, z1, z2⟩ := E.out.a.c3
      clear hbb hpI hqI hrI n1 n2 b1 b2 hm1 hm2
      by_cases k1 : m1 < m2
      · have d2 : decide (m1 < m2) = true := decide_eq_true k1
        have HP2 : Hid (∀ j, j < i + 1 → ltS (tx L j) s) := fun j hj => by
          by_cases e : j = i
          · rw [e]; exact hlt.2 k1
          · exact HP.out j (by omega)
        clear hlt heq h1
        go_upto_region 3 with fail
        go_quiet (fail)
        go_upto_region 4 with fail
        clear c0 c1 c2 z0 z1 z2
        generalize hw1 : World.drewN _ _ = w1
        replace E := hidb (E.out.drewN hw1)
        clear hw1
        obtain ⟨⟨c0, c1, c2⟩, -⟩ := (HS.out _ E.out.gr).row i (by rw [← HM.out]; exact H1.out)
        rw [← HV.out.1] at c0
        rw [← HV.out.2.1] at c1
        rw [← HV.out.2.2] at c2
        go_wp2_with (at_builtin; refine wpList_t3 G _ (w.heap.size + 1) _ (L.take i) (tx L i) i w1.heap.size _ _ rfl rfl rfl rfl E.out.n (by have := HMl.out; have := H1.out; omega) (E.out.r.alloc _) (HTi.out _ _ i pI qI rI HV.out.1 HV.out.2.1 HV.out.2.2 (At.new3 _ _ _ _ _)) (by have := E.out.b.2; simp; omega) ?_; intro g2 cap3 w3 hown hgrow)
        have E3 := hidb (E.out.app (M' := L.take (i + 1)) (by rw [HTl.out i H1.out]; exact hown.out) hgrow.out (by rw [List.length_take]; have := HM.out; have := H1.out; omega))
        go_roundw
        case rel => exact ⟨i + 1, H1.out, by go_num, E3, HP2⟩
        case measure => have := H1.out; simp [intOf]; omega
      · have d2 : decide (m1 < m2) = false := decide_eq_false k1
        have hw := HW.out (fun _ => fun k => k1 (hlt.1 k))
        have HQ := hidb heq
        have HW2 := hidb hw
        have HG := hidb E.out.gr
        clear hw hlt heq h1 HW HWs
        go_upto_region 3 with fail
        go_quiet (fail)
        go_upto_region 6 with fail
        clear c0 c1 c2 z0 z1 z2
        generalize hw1 : World.drewN _ _ = w1
        replace E := hidb (E.out.drewN hw1)
        clear hw1
        obtain ⟨⟨c0, c1, c2⟩, -⟩ := (HS.out _ E.out.gr).row i (by rw [← HM.out]; exact H1.out)
        rw [← HV.out.1] at c0
        rw [← HV.out.2.1] at c1
        rw [← HV.out.2.2] at c2
        obtain ⟨z0, z1, z2⟩ := E.out.a.c3
        by_cases k2 : m1 = m2
        · have d3 : (m1 == m2) = true := by simp [k2]
          have HR : Hid (wsP L s = L) := by show _ = _; rw [HW2.out, if_pos ⟨H1.out, HQ.out.2 k2⟩]
          clear k2
          go_quiet (fail)
          go_wp2
          go_ret
          refine ⟨_, rfl, ?_, E.out.gr.drewN _⟩
          rw [HR.out]
          exact ⟨b, cap, by rw [← HM.out]; rfl, HS.out _ (E.out.gr.drewN _), by rw [← HM.out]; exact HMl.out.2.2⟩
        · have d3 : (m1 == m2) = false := by simp [k2]
          have HR : Hid (wsP L s = L.take i ++ [s] ++ L.drop i) := by show _ = _; rw [HW2.out, if_neg (fun k => k2 (HQ.out.1 k.2))]; simp
          have sl := HSl.out i H1.out
          clear k2 HSl SE
          go_quiet (fail)
          go_upto_region 8 with fail
          clear c0 c1 c2 z0 z1 z2
          generalize hw2 : World.drewN _ _ = w2
          replace E := hidb (E.out.drewN hw2)
          clear hw2
          obtain ⟨z0, z1, z2⟩ := E.out.a.c3
          go_upto_region 9 with (at_builtin; refine wpList_t3 G _ (w.heap.size + 1) _ (L.take i) s i w2.heap.size _ _ rfl rfl rfl rfl E.out.n (by have := HMl.out; have := H1.out; omega) (E.out.r.alloc _) (HT.out _ _ (At.new3 _ _ _ _ _)) (by have := E.out.b.2; simp; omega) ?_; intro g2 cap3 w3 hown hgrow)
          have E3 := hidb (E.out.app (M' := L.take i ++ [s]) hown.out hgrow.out (by rw [List.length_append, E.out.n]; rfl))
          have HSw := hidb ((HS.out _ E3.out.gr).rest i)
          clear z0 z1 z2 hown hgrow E
          go_wp2_with (at_builtin; refine wpList_tn G _ (w.heap.size + 1) _ (L.take i ++ [s]) (L.drop i) (i + 1) b (i * 3) (M - i) (cap - i) _ _ rfl rfl rfl rfl E3.out.n (by rw [List.length_drop, ← HM.out]) (by have := HMl.out; have := H1.out; omega) (by have := H1.out; omega) E3.out.r HSw.out E3.out.b.2 ?_; intro g4 cap4 w4 hown4 hgrow4)
          go_ret
          have E4 := E3.out.app0 (M' := L.take i ++ [s] ++ L.drop i) hown4.out hgrow4.out (by rw [List.length_append, E3.out.n, List.length_drop, ← HM.out])
          exact ⟨_, rfl, by rw [HR.out]; exact TV.of E4.r E4.n (by omega), E4.gr⟩
    · have h1' : ¬ (i : Int) < (M : Int) := by omega
      have hiM : i = M := by omega
      have d1 : decide ((i : Int) < (M : Int)) = false := decide_eq_false h1'
      have HR : Hid (wsP L s = L.take i ++ [s]) := by
        show _ = _
        rw [HWs.out i hi HP.out (fun k => absurd k h1), if_neg (fun k => h1 k.1), List.drop_eq_nil_of_le (by have := HM.out; omega)]
      have HMi := hidb hiM
      have SE2 : ∀ w, (Instr.slice 54 (.slice (some ⟨b, 0, none⟩) M cap) (some (.int .i64 (i : Int))) none none).run Tryd.prog w = .ok (.slice adE 0 (cap - M)) w := by rw [hiM]; exact SE
      clear h1 hiM HWs HSl SE
      go_upto_region 3 with fail
      go_quiet (fail)
      go_upto_region 6 with fail
      generalize hw1 : World.drewN _ _ = w1
      replace E := hidb (E.out.drewN hw1)
      clear hw1
      go_quiet (fail)
      go_upto_region 8 with fail
      generalize hw2 : World.drewN _ _ = w2
      replace E := hidb (E.out.drewN hw2)
      clear hw2
      obtain ⟨z0, z1, z2⟩ := E.out.a.c3
      go_upto_region 9 with (at_builtin; refine wpList_t3 G _ (w.heap.size + 1) _ (L.take i) s i w2.heap.size _ _ rfl rfl rfl rfl E.out.n (by have := HMl.out; omega) (E.out.r.alloc _) (HT.out _ _ (At.new3 _ _ _ _ _)) (by have := E.out.b.2; simp; omega) ?_; intro g2 cap3 w3 hown hgrow)
      have E3 := hidb (E.out.app (M' := L.take i ++ [s]) hown.out hgrow.out (by rw [List.length_append, E.out.n]; rfl))
      have hcp : i + 1 ≤ cap3 := own_cap3 E3.out.r
      clear z0 z1 z2 hown hgrow E
      go_wp2_with (at_builtin; refine wpList_t0 _ g2 (i + 1) cap3 (cap - M) adE _ _ rfl rfl rfl rfl hcp ?_)
      go_ret
      exact ⟨_, rfl, by rw [HR.out]; exact TV.of E3.out.r E3.out.n (by omega), E3.out.gr⟩
end Go.Proofs.YtpdiefmmenfpaaaDoor
