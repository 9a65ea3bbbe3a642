/-
  The law GridSheets: its walk, over what is called.
-/
import Derived.Test.YthpbkomchdgneaaDoorQGsG
namespace Go.Proofs.YthpbkomchdgneaaDoor
open Go.RowKit

theorem row_s {w : World} {v : Value} {l : List Sh} (h : RowS w v l) : ∃ ad b cap, v = .slice ad l.length cap ∧ Cel w b l ∧ (l = [] ∨ b < w.heap.size) ∧ (∀ k : Nat, k < l.length → ∀ w, (Instr.indexAt 35 (.slice ad l.length cap) (.int .i64 k)).run Tryd.prog w = .ok (.pointer (some ⟨b, k * 6, none⟩)) w) ∧ (∀ k : Nat, k < l.length → ∀ w, (Instr.indexAt 40 (.slice ad l.length cap) (.int .i64 k)).run Tryd.prog w = .ok (.pointer (some ⟨b, k * 6, none⟩)) w) := by
  rcases h with ⟨rfl, rfl⟩ | ⟨b, cap, rfl, h4, h5⟩
  · exact ⟨none, 0, 0, rfl, fun k h => by simp at h, .inl rfl, fun k h => by simp at h, fun k h => by simp at h⟩
  · exact ⟨some ⟨b, 0, none⟩, b, cap, rfl, h4, .inr h5, fun k hk w => index_s b _ cap k hk w, fun k hk w => index_t b _ cap k hk w⟩
theorem row_i {w : World} {v : Value} {l : List Int} (h : RowI w v l) : ∃ ad b cap, v = .slice ad l.length cap ∧ (∀ i, (h : i < l.length) → w.cell? ⟨b, i, none⟩ = some (.int .i64 l[i])) ∧ (l = [] ∨ b < w.heap.size) ∧ (∀ k : Nat, k < l.length → ∀ w, (Instr.indexAt 44 (.slice ad l.length cap) (.int .i64 k)).run Tryd.prog w = .ok (.pointer (some ⟨b, k, none⟩)) w) := by
  rcases h with ⟨rfl, rfl⟩ | ⟨b, cap, rfl, h2, h3, h4, h5⟩
  · exact ⟨none, 0, 0, rfl, fun k h => by simp at h, .inl rfl, fun k h => by simp at h⟩
  · exact ⟨some ⟨b, 0, none⟩, b, cap, rfl, h4, .inr h5, fun k hk w => index_row b _ cap k hk w⟩
/-- What the law calls, and what is known of it. -/
structure GS (g : Nat → Addr) (a b c d wide high lap px py : Int) (L : List Sh) (er : Value) (ec : Nat) : Prop where
  len : L.length ≤ 4000
  prog : ∀ w, Laid w g → Calls Tryd.prog 10 #[boV a b c d, .int .i64 wide, .int .i64 high, .int .i64 lap] w fun e w' => ∃ v, e = .returned (.tuple #[v, er]) ∧ RowS w' v L ∧ Gr w w'
  ref : ∀ w, Calls Tryd.prog 11 #[boV a b c d, .int .i64 wide, .int .i64 high, .int .i64 lap] w fun e w' => ∃ v, e = .returned (.tuple #[v, .int .i64 ec]) ∧ RowS w' v L ∧ Gr w w'
  code : ∀ w, Laid w g → Calls Tryd.prog 12 #[er, .int .i64 ec] w fun e w' => e = .returned (.bool true) ∧ Gr w w'
  fin : ec = 0 → a ≤ px → px ≤ c → b ≤ py → py ≤ d → 0 < (onI L px py L.length).length
set_option maxRecDepth 4000 in
set_option maxHeartbeats 8000000 in
theorem gridSheets_gen {g : Nat → Addr} {a b c d wide high lap px py : Int} {L : List Sh} {er : Value} {ec : Nat} (H : Hid (GS g a b c d wide high lap px py L er ec)) (w : World) (hl : Laid w g) : Calls Tryd.prog 4 #[boV a b c d, .int .i64 wide, .int .i64 high, .int .i64 lap, .agg #[.int .i64 px, .int .i64 py]] w fun e w' => e = .returned (.bool true) ∧ Gr w w' := by
  have HL := hidb hl
  clear hl
  obtain ⟨i0, hi, hz0, hz1, hz2⟩ := info_parts infoI
  go_enter Tryd.func4, Tryd.ntmps4
  go_wp2_with fail
  refine (zoned_any _).mono ?_
  rintro e w0 ⟨rfl, rfl⟩
  have PA : At ((w.alloc (.cells #[.int .i64 a, .int .i64 b, .int .i64 c, .int .i64 d] 34)).alloc (.cells #[.int .i64 px, .int .i64 py] 32)) w.heap.size (boL a b c d) := (At.new4 w _ _ _ _ _).alloc _
  have QA : At ((w.alloc (.cells #[.int .i64 a, .int .i64 b, .int .i64 c, .int .i64 d] 34)).alloc (.cells #[.int .i64 px, .int .i64 py] 32)) (w.heap.size + 1) [.int .i64 px, .int .i64 py] := by ((with_reducible repeat' (first | assumption | exact At.new1 _ _ _ | exact At.new2 _ _ _ _ | exact At.new3 _ _ _ _ _ | exact At.nx1 _ _ _ | exact At.nx2 _ _ _ _ | exact At.nx3 _ _ _ _ _ | exact At.ny1 _ _ _ _ | exact At.ny2 _ _ _ _ _ | exact At.ny3 _ _ _ _ _ _ | exact At.nz1 _ _ _ _ _ | exact At.nz2 _ _ _ _ _ _ | exact At.nz3 _ _ _ _ _ _ _ | exact Has.new1 _ _ _ | exact Has.new2 _ _ _ _ | exact Has.new3 _ _ _ _ _ | exact Has.nx1 _ _ _ | exact Has.nx2 _ _ _ _ | exact Has.nx3 _ _ _ _ _ | exact Has.ny1 _ _ _ _ | exact Has.ny2 _ _ _ _ _ | exact Has.ny3 _ _ _ _ _ _ | exact Has.nz1 _ _ _ _ _ | exact Has.nz2 _ _ _ _ _ _ | exact Has.nz3 _ _ _ _ _ _ _ | refine At.fill1 ?_ _ | refine At.fill2 ?_ _ _ | refine At.fill3 ?_ _ _ _ | refine At.swap ?_ (by first | omega | (simp; omega)) _ _ | refine At.alloc ?_ _ | refine At.drew ?_ | refine At.skip ?_ (by first | omega | (simp; omega)) _ _ | refine At.below (by assumption) ?_ | refine Has.alloc ?_ _ | refine Has.drew ?_ | refine Has.set ?_ _ _ _ | refine Has.below (by assumption) ?_)); done)
  have HC : Gr w ((w.alloc (.cells #[.int .i64 a, .int .i64 b, .int .i64 c, .int .i64 d] 34)).alloc (.cells #[.int .i64 px, .int .i64 py] 32)) := by ((with_reducible repeat' (first | assumption | refine Gr.drew ?_ | refine Gr.alloc ?_ _ | refine Gr.set ?_ (by first | omega | (simp; omega)) _ _ | exact Gr.refl _)); done)
  generalize (w.alloc (.cells #[.int .i64 a, .int .i64 b, .int .i64 c, .int .i64 d] 34)).alloc (.cells #[.int .i64 px, .int .i64 py] 32) = w1 at PA QA HC ⊢
  obtain ⟨c0, c1, c2, c3⟩ := PA.c4
  go_wp2_with fail
  refine (H.out.prog _ (HL.out.below HC)).mono ?_
  rintro e w2 ⟨v, rfl, hv, hB⟩
  replace HC : Gr w w2 := Gr.step HC hB
  replace PA := At.below hB PA
  replace QA := At.below hB QA
  have HV := hidb hv
  clear hB c0 c1 c2 c3 hv
  obtain ⟨c0, c1, c2, c3⟩ := PA.c4
  go_wp2_with fail
  refine (H.out.ref _).mono ?_
  rintro e w3 ⟨v', rfl, hv', hB⟩
  replace HC : Gr w w3 := Gr.step HC hB
  replace PA := At.below hB PA
  replace QA := At.below hB QA
  replace HV := hidb (RowS.below hB HV.out)
  have HV' := hidb hv'
  clear hB c0 c1 c2 c3 hv'
  go_wp2_with fail
  refine (H.out.code _ (HL.out.below HC)).mono ?_
  rintro e w4 ⟨rfl, hB⟩
  replace HC : Gr w w4 := Gr.step HC hB
  replace PA := At.below hB PA
  replace QA := At.below hB QA
  replace HV := hidb (RowS.below hB HV.out)
  replace HV' := hidb (RowS.below hB HV'.out)
  clear hB
  obtain ⟨ad, bl, cap, hve, cel, hbl, ix, _⟩ := row_s HV.out
  obtain ⟨ad', bl', cap', hve', cel', hbl', _, ix'⟩ := row_s HV'.out
  subst hve hve'
  have hn := H.out.len
  obtain ⟨n, hnn⟩ : ∃ n, n = L.length := ⟨_, rfl⟩
  rw [← hnn] at hn ix ix' HV HV' ⊢
  have HNN := hidb hnn
  have CEL := hidb cel
  have CEL' := hidb cel'
  have HBL := hidb hbl
  have HBL' := hidb hbl'
  have IX := hidb ix
  have IX' := hidb ix'
  clear hnn cel cel' hbl hbl' ix ix'
  go_wp2
  go_loopw [17, 18] (fun v t wr => ∃ (k : Nat) (ad3 : Option Addr) (cap3 : Nat), k ≤ n ∧ v = .slice ad3 (onI L px py k).length cap3 ∧ t = .int .i64 k ∧ wr.ownsRow w4.heap.size 3 1 v (onI L px py k).length (ir (onI L px py k)) ∧ Gr w4 wr) (fun _ t _ => n - (intOf t).toNat)
  case atStart => exact ⟨0, none, 0, by omega, by simp [onI], rfl, by simpa [onI] using World.ownsRow_nil w4 _ _ _, Gr.refl _⟩
  case round =>
    obtain ⟨k, ad3, cap3, hk, rfl, rfl, hown, HG⟩ := hrel
    by_cases h1 : k < n
    · have h1a : k < L.length := by rw [← HNN.out]; exact h1
      have hcel := (CEL.out.below HBL.out HG.out) k h1a
      have hcel' := (CEL'.out.below HBL'.out HG.out) k h1a
      have hoa := onAt_get (px := px) (py := py) h1a
      generalize L[k] = s at hcel hcel' hoa
      obtain ⟨sc', sr, sa, sb, sx, sy⟩ := s
      obtain ⟨q0, q1, q2, q3, q4, q5⟩ := hcel
      obtain ⟨r0, r1, r2, r3, r4, r5⟩ := hcel'
      simp only at q0 q1 q2 q3 q4 q5 r0 r1 r2 r3 r4 r5
      have ixa := IX.out k h1
      have ixb := IX'.out k h1
      obtain ⟨p0, p1⟩ := (At.below HG QA).c2
      have h1' : (k : Int) < (n : Int) := by omega
      have e5 : IntKind.i64.wrap ((k : Int) + 1) = ((k + 1 : Nat) : Int) := by rw [wr64 (by omega) (by omega)]; simp
      have HLN := hidb (onI_len L px py k)
      have HOA := hidb hoa
      have HH1 := hidb h1
      clear hoa h1 hk h1a
      go_upto_region 13 with fail
      go_quiet (fail)
      replace r2 : (wr.drewN nq).cell? ⟨bl', k * 6 + 2, none⟩ = some (.int .i64 sa) := r2
      replace r3 : (wr.drewN nq).cell? ⟨bl', k * 6 + 3, none⟩ = some (.int .i64 sb) := r3
      replace r4 : (wr.drewN nq).cell? ⟨bl', k * 6 + 4, none⟩ = some (.int .i64 sx) := r4
      replace r5 : (wr.drewN nq).cell? ⟨bl', k * 6 + 5, none⟩ = some (.int .i64 sy) := r5
      replace p0 : (wr.drewN nq).cell? ⟨w.heap.size + 1, 0, none⟩ = some (.int .i64 px) := p0
      replace p1 : (wr.drewN nq).cell? ⟨w.heap.size + 1, 1, none⟩ = some (.int .i64 py) := p1
      have hown1 : (wr.drewN nq).ownsRow w4.heap.size 3 1 (.slice ad3 (onI L px py k).length cap3) (onI L px py k).length (ir (onI L px py k)) := hown
      have HG1 : Gr w4 (wr.drewN nq) := HG.drewN nq
      clear hown HG q0 q1 q2 q3 q4 q5 r0 r1 ixa
      generalize wr.drewN nq = x1 at r2 r3 r4 r5 p0 p1 hown1 HG1 ⊢
      have keyx : decide (sa ≤ px) = false ∨ (decide (sa ≤ px) = true ∧ decide (px ≤ sx) = false) ∨ (decide (sa ≤ px) = true ∧ decide (px ≤ sx) = true) := by
        cases decide (sa ≤ px) <;> cases decide (px ≤ sx) <;> simp
      have keyy : decide (sb ≤ py) = false ∨ (decide (sb ≤ py) = true ∧ decide (py ≤ sy) = false) ∨ (decide (sb ≤ py) = true ∧ decide (py ≤ sy) = true) := by
        cases decide (sb ≤ py) <;> cases decide (py ≤ sy) <;> simp
      rcases keyx with hx | ⟨hx, hx2⟩ | ⟨hx, hx2⟩
      all_goals
        rcases keyy with hy | ⟨hy, hy2⟩ | ⟨hy, hy2⟩
      rotate_left 8
      · have HN := hidb (onI_yes (n := k) (l := L) (px := px) (py := py) (by rw [HOA.out]; unfold onB inI; simp only; rw [hx, hx2, hy, hy2]; rfl))
        go_upto_region 15 with fail
        go_quiet (fail)
        go_upto_region 16 with fail
        go_quiet (fail)
        clear hx hx2 hy hy2
        generalize hwd : World.drewN (World.drewN x1 _) _ = x2
        have hown2 : x2.ownsRow w4.heap.size 3 1 (.slice ad3 (onI L px py k).length cap3) (onI L px py k).length (ir (onI L px py k)) := by rw [← hwd]; exact hown1
        have HG2 : Gr w4 x2 := by rw [← hwd]; exact (HG1.drewN _).drewN _
        clear hwd hown1 HG1 r2 r3 r4 r5 p0 p1 ixb
        go_wp2_with (at_builtin; refine wpList_append_own _ rfl _ _ 44 rfl w4.heap.size 3 i0 (.int .i64 0) 1 8 undI hi hz0 hz1 hz2 rfl (by decide) _ _ _ rfl (hown2.alloc _) ⟨x2.heap.size, 0, none⟩ 1 1 [.int .i64 (k : Int)] rfl rfl ?c1 ?c2 ?c3 ?c4 ?c5 ?_)
        case c1 => intro j u hj; exact news1 hj (by simp [go_sem, Addr.add])
        case c2 => intro u hu; simp at hu; subst hu; rfl
        case c3 => have := HLN.out; have := HH1.out; unfold maxLen; omega
        case c4 => have := HLN.out; have := HH1.out; omega
        case c5 => have := HG2.out.size; simp; omega
        intro v6 w6 hown' hgrow _
        have HC6 : Gr w4 w6 := Below.grown (HG2.alloc _) hgrow (by have := HG2.out.size; simp; omega) (fun n hn => (hown2.lt n hn).1)
        rw [ir_snoc, HN.out] at hown'
        have HLE : Hid ((onI L px py k).length + 1 = (onI L px py (k + 1)).length) := by show _ = _; rw [← HN.out]; simp
        rw [HLE.out] at hown'
        obtain ⟨ad6, cap6, hv6⟩ := own_shape hown'
        clear hgrow hown2 HG2
        go_wp2
        go_roundw
        case rel => exact ⟨k + 1, ad6, cap6, HH1.out, hv6, rfl, hown', HC6⟩
        case measure => have := HH1.out; simp [intOf]; omega
      all_goals
        have HN := hidb (onI_no (n := k) (l := L) (px := px) (py := py) (by rw [HOA.out]; unfold onB inI; simp only; simp [*]))
        go_upto_region 15 with fail
        go_quiet (fail)
        go_upto_region 16 with fail
        go_quiet (fail)
        go_wp2
        go_roundw
        case rel => exact ⟨k + 1, ad3, cap3, HH1.out, by rw [← HN.out], rfl, by rw [← HN.out]; exact hown1, HG1.drewN _⟩
        case measure => have := HH1.out; simp [intOf]; omega
    · have h1' : ¬ (k : Int) < (n : Int) := by omega
      obtain rfl : k = n := by omega
      have HRI := hidb (own_ri hown).1
      replace HC := Gr.step HC HG.out
      replace PA := At.below HG PA
      replace QA := At.below HG QA
      replace HV := hidb (RowS.below HG HV.out)
      have hm := onI_len L px py k
      clear h1 hk hown HV' CEL CEL' HBL HBL' IX IX' HG
      obtain ⟨p0, p1⟩ := QA.c2
      go_wp2_with fail
      refine (on_any px py H.out.len HV.out).mono ?_
      rintro e w5 ⟨v5, rfl, hv5, hB⟩
      replace HC : Gr w w5 := Gr.step HC hB
      replace PA := At.below hB PA
      replace QA := At.below hB QA
      replace HRI := hidb (RowI.below hB HRI.out)
      rw [← HNN.out] at hv5
      obtain ⟨ad5, b5, cap5, hve5, cel5, hb5, ix5⟩ := row_i hv5
      obtain ⟨ad6, b6, cap6, hve6, cel6, hb6, ix6⟩ := row_i HRI.out
      subst hve5
      have hfin : ec = 0 → a ≤ px → px ≤ c → b ≤ py → py ≤ d → 0 < (onI L px py k).length := by
        have := H.out.fin
        rw [← HNN.out] at this
        exact this
      have HF := hidb hfin
      cases hve6
      have C5 := hidb cel5
      have C6 := hidb cel6
      have B5 := hidb hb5
      have B6 := hidb hb6
      have X5 := hidb ix5
      have X6 := hidb ix6
      clear hB p0 p1 hv5 HRI hfin cel5 cel6 hb5 hb6 ix5 ix6 HV HNN H
      generalize onI L px py k = O at *
      obtain ⟨m, hmm⟩ : ∃ m, m = O.length := ⟨_, rfl⟩
      rw [← hmm] at X5 X6 hm HF ⊢
      have HMM := hidb hmm
      clear hmm
      go_wp2
      go_loopw [22] (fun t wr => ∃ (j : Nat), j ≤ m ∧ t = .int .i64 j ∧ Gr w5 wr) (fun t _ => m - (intOf t).toNat)
      case atStart => exact ⟨0, by omega, rfl, Gr.refl _⟩
      case round =>
        obtain ⟨j, hj, rfl, HG⟩ := hrel
        by_cases h2 : j < m
        · have h2a : j < O.length := by rw [← HMM.out]; exact h2
          have hb5 := B5.out.resolve_left (by intro e; rw [e] at h2a; simp at h2a)
          have hb6 := B6.out.resolve_left (by intro e; rw [e] at h2a; simp at h2a)
          have ca : wr.cell? ⟨b5, j, none⟩ = some (.int .i64 O[j]) := (HG.out.cell (p := ⟨b5, j, none⟩) hb5).trans (C5.out j h2a)
          have ca' : wr.cell? ⟨_, j, none⟩ = some (.int .i64 O[j]) := (HG.out.cell (p := ⟨_, j, none⟩) hb6).trans (C6.out j h2a)
          have ixa := X5.out j h2
          have ixb := X6.out j h2
          have h2' : (j : Int) < (m : Int) := by omega
          have e5 : IntKind.i64.wrap ((j : Int) + 1) = ((j + 1 : Nat) : Int) := by rw [wr64 (by omega) (by omega)]; simp
          have HH2 := hidb h2
          generalize O[j] = x at ca ca'
          clear h2 hj h2a hb5 hb6
          go_upto_region 25 with fail
          go_quiet (fail)
          go_wp2
          go_roundw
          case rel => exact ⟨j + 1, HH2.out, rfl, HG.drewN _⟩
          case measure => have := HH2.out; simp [intOf]; omega
        · have h2' : ¬ (j : Int) < (m : Int) := by omega
          replace HC := Gr.step HC HG.out
          replace PA := At.below HG PA
          replace QA := At.below HG QA
          clear h2 hj HG C5 C6 B5 B6 X5 X6
          obtain ⟨c0, c1, c2, c3⟩ := PA.c4
          obtain ⟨p0, p1⟩ := QA.c2
          by_cases hec : ec = 0
          · by_cases h3 : a ≤ px
            · by_cases h4 : px ≤ c
              · by_cases h5 : b ≤ py
                · by_cases h6 : py ≤ d
                  · have HPOS := hidb (HF.out hec h3 h4 h5 h6)
                    subst hec
                    go_wp2
                    all_goals
                      go_ret
                      exact ⟨by simp [HPOS.out], HC⟩
                  · subst hec
                    go_wp2
                    all_goals
                      go_ret
                      exact ⟨by simp, HC⟩
                · subst hec
                  go_wp2
                  all_goals
                    go_ret
                    exact ⟨by simp, HC⟩
              · subst hec
                go_wp2
                all_goals
                  go_ret
                  exact ⟨by simp, HC⟩
            · subst hec
              go_wp2
              all_goals
                go_ret
                exact ⟨by simp, HC⟩
          · have hpos : (0 : Int) < (ec : Int) := by omega
            go_wp2
            all_goals
              go_ret
              exact ⟨by simp, HC⟩
end Go.Proofs.YthpbkomchdgneaaDoor
