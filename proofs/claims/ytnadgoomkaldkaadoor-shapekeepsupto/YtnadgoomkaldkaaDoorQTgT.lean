/-
  shape.thinnerOf.
-/
import Derived.Test.YtnadgoomkaldkaaDoorQTk
import Derived.Test.YtnadgoomkaldkaaDoorQJ13
import Derived.Test.YtnadgoomkaldkaaDoorQTgL
import Derived.Test.YtnadgoomkaldkaaDoorQJ15
import Derived.Test.YtnadgoomkaldkaaDoorQJ19
namespace Go.Proofs.YtnadgoomkaldkaaDoor
open Go.RowKit
attribute [local go_sem ↓] Go.wp_at_zero Go.wp_at_succ

theorem step_s2 {ops : Array Oper} {o : Oper} {a : Act} {K : Act → World → Prop} {Q : Exit → Act → World → Prop} {Ep : Prop} (W : World) (b0 : Nat) (v : Value) (l : List Sp) (r : Sp) (n B : Nat) (s x : Operand) (hgd : o.guard = none)
    (ho : o.op = .call { callee := .builtin .append, args := #[s, x], argTypes := #[43, 43] }) (hs : a.eval s = v) (hx : a.eval x = .slice (some ⟨B, 0, none⟩) 1 1) (hn : l.length = n) (hl : n ≤ 10000)
    (hO : W.ownsRow b0 52 2 v n (sr l)) (hN : At W B (sc r)) (hb : b0 ≤ W.heap.size)
    (h : ∀ g cap w', Hid (w'.ownsRow b0 52 2 (.slice (some ⟨g, 0, none⟩) (n + 1) cap) (n + 1) (sr (l ++ [r]))) → Hid (W.grownBy w' v.ownBlock) → Hid (v.ownBlock = some g ∨ g = W.heap.size) → K (a.put o.dst (.slice (some ⟨g, 0, none⟩) (n + 1) cap)) w') :
    if Region.wanted o (yielded ops a.tmps) = true then Oper.wp Tryd.prog o a W K Q else Ep := by
  have hml : 100000 ≤ maxLen := by decide
  have ones : ∀ u ∈ sc r, u.oneCell' = true := by
    intro u hu
    simp only [List.mem_cons, List.not_mem_nil, or_false] at hu
    rcases hu with rfl | rfl <;> rfl
  obtain ⟨i0, hi, hz0, hz1, hz2⟩ := info_pt infoS2
  refine step_append_lies W hgd s x _ ho b0 _ i0 (.agg #[.int .i64 0, .int .i64 0]) 2 16 undS2 hi hz0 hz1 hz2 rfl (by decide) v n (sr l) hs hO ⟨B, 0, none⟩ 1 1 (sc r) hx rfl (news_at hN) ones (by decide) (by omega) (by omega) hb _ rfl ?_
  intro g cap w' hown hgrow hat _
  rw [sr_snoc] at hown
  exact h g cap w' hown hgrow hat
set_option maxRecDepth 4000 in
set_option maxHeartbeats 32000000 in
theorem thinnerOf_any {ad : Option Addr} {b o cap : Nat} {Ls : List (List Sp)} {most : Int} (hm : mcd Ls = 0) (hN0 : 0 < Ls.length) (w : World) (h : LLs w ad b o cap Ls) : Calls Tryd.prog 33 #[.slice ad Ls.length cap, .int .i64 most] w fun e w' => ∃ T SP cS GO CL AR cA B cp, e = .returned (.pointer (some ⟨T, 0, none⟩)) ∧ TH w w' T SP cS GO CL AR cA B cp most Ls.flatten (nuA Ls) (List.replicate Ls.flatten.length false) (List.replicate Ls.flatten.length 0) := by
  obtain ⟨m1, m2, m3, -, -⟩ := mcd_ok hm
  have h1L : ∀ i, i < Ls.length → 1 ≤ (lx Ls i).length := fun i hi => by have := (m3 i hi).1; omega
  have hn0 : 0 < Ls.flatten.length := by have := len_le hN0; have := h1L 0 hN0; omega
  have HR := hidb h
  have HLb := hidb (fun i (hi : i < Ls.length) => len_le hi)
  have HOf := hidb (fun x (hx : x < Ls.length) => And.intro (ofL_succ hx) (ofL_mono (Ls := Ls) (i := x + 1) (j := Ls.length) (by omega) (Nat.le_refl _)))
  have HOa := hidb (ofL_all Ls)
  have HTk := hidb (fun x (hx : x < Ls.length) => take_flat Ls hx)
  have HTl := hidb (fun x => show (Ls.take x).flatten.length = ofL Ls x from rfl)
  have HRt : Hid (∀ W0 W base T SP cS GO CL AR cA vs vR R, RT w W0 base (.slice (some ⟨AR, 0, none⟩) Ls.length cA) vs (iuA Ls Ls.length) vR R (.slice (some ⟨SP, 0, none⟩) Ls.flatten.length cS) Ls.flatten → RT w W base (.slice (some ⟨AR, 0, none⟩) Ls.length cA) vs (iuA Ls Ls.length) vR R (.slice (some ⟨SP, 0, none⟩) Ls.flatten.length cS) Ls.flatten → T < base → W0.heap.size ≤ GO → GO < CL → At W T [.int .i64 most, .slice (some ⟨SP, 0, none⟩) Ls.flatten.length cS, .slice (some ⟨GO, 0, none⟩) Ls.flatten.length Ls.flatten.length, .slice (some ⟨CL, 0, none⟩) Ls.flatten.length Ls.flatten.length, .slice (some ⟨AR, 0, none⟩) Ls.length cA] → At W GO (br (List.replicate Ls.flatten.length false)) → At W CL (ir (List.replicate Ls.flatten.length 0)) → ∃ B cp, TH w W T SP cS GO CL AR cA B cp most Ls.flatten (nuA Ls) (List.replicate Ls.flatten.length false) (List.replicate Ls.flatten.length 0)) :=
    fun W0 W base T SP cS GO CL AR cA vs vR R q0 q1 q2 q3 q4 q5 q6 q7 => RT.th q0 q1 rfl h1L q2 q3 q4 q5 q6 q7
  obtain ⟨CG, hCG, mkG⟩ := made_runB Ls.flatten.length (by omega)
  obtain ⟨CC, hCC, mkC⟩ := made_runI Ls.flatten.length (by omega)
  have HCG := hidb hCG
  have HCC := hidb hCC
  have E0 : Hid (RT w (w.alloc (.cells #[.int .i64 most, .slice none 0 0, .slice none 0 0, .slice none 0 0, .slice none 0 0] 93)) (w.heap.size + 1) (.slice none 0 0) [] [] (.slice none 0 0) [] (.slice none 0 0) [] ∧ At (w.alloc (.cells #[.int .i64 most, .slice none 0 0, .slice none 0 0, .slice none 0 0, .slice none 0 0] 93)) w.heap.size [.int .i64 most, .slice none 0 0, .slice none 0 0, .slice none 0 0, .slice none 0 0]) :=
    ⟨RT.start w _ _ ((Gr.refl w).alloc _) ⟨by omega, by simp⟩, At.newArr _ _ _⟩
  have HTs : Hid (w.heap.size ≤ w.heap.size ∧ w.heap.size < w.heap.size + 1) := ⟨Nat.le_refl _, Nat.lt_succ_self _⟩
  obtain ⟨N, hNn⟩ : ∃ N, N = Ls.length := ⟨_, rfl⟩
  have HN := hidb hNn
  obtain ⟨n, hnn⟩ : ∃ n, n = Ls.flatten.length := ⟨_, rfl⟩
  have HNn := hidb hnn
  rw [← hNn] at m1 hN0 HRt ⊢
  rw [← hnn] at m2 hn0 HRt mkG mkC HCG HCC ⊢
  have HNb := hidb (And.intro m1 (And.intro m2 (And.intro hN0 hn0)))
  clear m1 m2 m3 h1L hn0 h hm hN0 hCG hCC hNn hnn
  go_enter Tryd.func33, Tryd.ntmps33
  go_wp2
  generalize w.alloc (.cells #[.int .i64 most, .slice none 0 0, .slice none 0 0, .slice none 0 0, .slice none 0 0] 93) = W1 at *
  obtain ⟨base, hbase⟩ : ∃ z, z = w.heap.size + 1 := ⟨_, rfl⟩
  obtain ⟨T, hT⟩ : ∃ z, z = w.heap.size := ⟨_, rfl⟩
  have HTb : Hid (w.heap.size ≤ T ∧ T < base) := ⟨by omega, by omega⟩
  rw [← hbase] at E0
  rw [← hT] at E0 ⊢
  clear HTs hbase hT
  go_loopw [16] (fun t wr => ∃ x : Nat, x ≤ N ∧ t = .int .i64 (x : Int) ∧ Hid (∃ vO vs vS, RT w wr base vO vs (iuA Ls x) (.slice none 0 0) [] vS (Ls.take x).flatten ∧ At wr T [.int .i64 most, vS, .slice none 0 0, .slice none 0 0, vO])) (fun t _ => N - (intOf t).toNat)
  case atStart => exact ⟨0, Nat.zero_le _, rfl, hidb ⟨_, _, _, E0.out⟩⟩
  case round =>
    clear E0
    obtain ⟨x, hx, rfl, E⟩ := hrel
    obtain ⟨vO, vs, vS, E⟩ := E.out
    have E := hidb E
    by_cases h1 : ¬ x < N
    · have h1' : ¬ (x : Int) < (N : Int) := by omega
      obtain rfl : x = N := by omega
      have HZ := hidb (show (Ls.take x).flatten = Ls.flatten by rw [List.take_of_length_le (by rw [← HN.out]; exact Nat.le_refl _)])
      have hvs : vs.length = x := by have := E.out.1.q.n; simpa [iuA] using this
      have hq := E.out.1.q.o
      rw [hvs] at hq
      obtain ⟨AR, cA, rfl, -⟩ := own_some hq HNb.out.2.2.1
      have hs := E.out.1.s
      rw [HZ.out, ← HNn.out] at hs
      obtain ⟨SP, cS, rfl, -⟩ := own_some hs HNb.out.2.2.2
      rw [HZ.out] at E
      clear h1 hvs hq hs
      obtain ⟨-, t1, -, -, -⟩ := at5 E.out.2
      have EA := hidb (E.out.2.alloc (.cells CG 4))
      have f2 := (EA.out.1 2 (by simp)).2
      have g2 := (at5 EA.out).2.2.1
      obtain ⟨GO, hGO⟩ : ∃ z, z = wr.heap.size := ⟨_, rfl⟩
      have mkG2 := mkG wr
      rw [← hGO] at mkG2
      clear mkG
      have HGO := hidb hGO
      have hTl := E.out.2.2
      clear hGO
      go_upto_region 15 with fail
      clear t1 f2 g2 mkG2
      have EB2 := hidb ((E.out.2.put 2 (.slice (some ⟨GO, 0, none⟩) n n)).alloc (.cells CG 4))
      have EG2 : Hid (At ((wr.setCell ⟨T, 2, none⟩ (.slice (some ⟨GO, 0, none⟩) n n)).alloc (.cells CG 4)) GO CG.toList) := by
        have := At.newArr (wr.setCell ⟨T, 2, none⟩ (.slice (some ⟨GO, 0, none⟩) n n)) CG 4
        have e : (wr.setCell ⟨T, 2, none⟩ (.slice (some ⟨GO, 0, none⟩) n n)).heap.size = GO := by have := HGO.out; simp; omega
        rw [e] at this
        exact this
      have ER2 := hidb ((E.out.1.set HTb.out.2 HTb.out.1 2 (.slice (some ⟨GO, 0, none⟩) n n)).below ((Below.refl _ _).alloc (Nat.le_refl _) (.cells CG 4)))
      have hW5 : ((wr.setCell ⟨T, 2, none⟩ (.slice (some ⟨GO, 0, none⟩) n n)).alloc (.cells CG 4)).heap.size = GO + 1 := by rw [HGO.out]; simp
      generalize (wr.setCell ⟨T, 2, none⟩ (.slice (some ⟨GO, 0, none⟩) n n)).alloc (.cells CG 4) = W5 at *
      obtain ⟨-, t1, -, -, -⟩ := at5 EB2.out
      have EA3 := hidb (EB2.out.alloc (.cells CC 3))
      have f3 := (EA3.out.1 3 (by simp)).2
      have g3 := (at5 EA3.out).2.2.2.1
      obtain ⟨CL, hCLn⟩ : ∃ z, z = GO + 1 := ⟨_, rfl⟩
      have HCLn := hidb hCLn
      have mkC2 := mkC W5
      rw [hW5, ← hCLn] at mkC2
      rw [← hCLn] at hW5
      have HW5 := hidb hW5
      clear mkC EA hCLn hW5
      go_wp2
      clear t1 f3 g3 mkC2
      have E3 := hidb (EA3.out.put 3 (.slice (some ⟨CL, 0, none⟩) n n))
      have EC3 : Hid (At ((W5.alloc (.cells CC 3)).setCell ⟨T, 3, none⟩ (.slice (some ⟨CL, 0, none⟩) n n)) CL CC.toList) := by
        have := At.newArr W5 CC 3
        rw [HW5.out] at this
        exact this.skip (by have := HGO.out; have := HCLn.out; omega) _ _
      have EG3 := hidb ((EG2.out.alloc (.cells CC 3)).skip (c := T) (by have := HGO.out; omega) 3 (.slice (some ⟨CL, 0, none⟩) n n))
      have ER3 := hidb ((ER2.out.below ((Below.refl _ _).alloc (Nat.le_refl _) (.cells CC 3))).set HTb.out.2 HTb.out.1 3 (.slice (some ⟨CL, 0, none⟩) n n))
      rw [HCG.out] at EG3
      rw [HCC.out] at EC3
      go_ret
      obtain ⟨B, cp, hF⟩ := HRt.out _ _ _ _ _ _ _ _ _ _ _ _ _ E.out.1 ER3.out HTb.out.2 (by rw [HGO.out]; exact Nat.le_refl _) (by rw [HCLn.out]; exact Nat.lt_succ_self _) E3.out EG3.out EC3.out
      exact ⟨T, rfl, SP, cS, GO, CL, AR, cA, B, cp, hF⟩
    · have h1' : (x : Int) < (N : Int) := by omega
      have H1 := hidb (show x < N by omega)
      have hxL : x < Ls.length := by rw [← HN.out]; exact H1.out
      have e1 : IntKind.i64.wrap ((x : Int) + 1) = ((x + 1 : Nat) : Int) := by rw [show (x : Int) + 1 = ((x + 1 : Nat) : Int) by omega]; exact wr_in (by omega) (by have := HNb.out.1; omega)
      obtain ⟨⟨a1, b1, o1, c1, y0, hS⟩, yb⟩ := HR.out.row x hxL
      have cX := (E.out.1.g.out.cell (p := ⟨b, o + x, none⟩) yb).trans y0
      have ix : ∀ w, (Instr.indexAt 30 (.slice ad N cap) (.int .i64 (x : Int))).run Tryd.prog w = .ok (.pointer (some ⟨b, o + x, none⟩)) w := by
        have := HR.out.ix x hxL
        rw [← HN.out] at this
        exact this
      have HSg := hidb (fun W (hG : Gr w W) => hS.gr hG)
      have HSx := hidb hS.ix
      have HTkx := hidb (HTk.out x hxL)
      rw [lx_get hxL] at HTkx
      have HOx := hidb (HOf.out x hxL)
      have HTlx := hidb (HTl.out x)
      have HLx := hidb (HLb.out x hxL)
      have HIa := hidb (iuA_succ Ls x)
      have HIl := hidb (iuL_succ Ls x)
      have hvs : vs.length = x := by have := E.out.1.q.n; simpa [iuA] using this
      have HVs := hidb hvs
      have HQo := hidb E.out.1.q.o
      rw [hvs] at HQo
      obtain ⟨adv, cv, rfl⟩ := own_form HQo.out
      generalize hLo : iuA Ls x = Lo at *
      generalize hS0 : (Ls.take x).flatten = S0 at *
      have E1 : Hid (RT w wr base (.slice adv x cv) vs Lo (.slice none 0 0) (iuL Ls x 0) vS (S0 ++ (lx Ls x).take 0) ∧ At wr T [.int .i64 most, vS, .slice none 0 0, .slice none 0 0, .slice adv x cv]) := by
        rw [List.take_zero, List.append_nil]
        exact E.out
      obtain ⟨Q, hQ⟩ : ∃ z, z = lx Ls x := ⟨_, rfl⟩
      rw [← hQ] at cX HSg HSx HTkx HOx HLx HIa E1
      obtain ⟨L, hL⟩ : ∃ z, z = Q.length := ⟨_, rfl⟩
      have HQl := hidb hL
      rw [← hL] at cX HSx HOx HLx HIa
      generalize ofL Ls x = ofx at *
      clear h1 hxL y0 yb hS hvs hL hLo hS0 E
      go_wp2
      clear cX
      go_loopw [8, 22] (fun r t wx => ∃ j : Nat, j ≤ L ∧ t = .int .i64 (j : Int) ∧ Hid (∃ vS, RT w wx base (.slice adv x cv) vs Lo r (iuL Ls x j) vS (S0 ++ Q.take j) ∧ At wx T [.int .i64 most, vS, .slice none 0 0, .slice none 0 0, .slice adv x cv])) (fun _ t _ => L - (intOf t).toNat)
      case atStart => exact ⟨0, Nat.zero_le _, rfl, hidb ⟨_, E1.out⟩⟩
      case round =>
        clear E1
        obtain ⟨j, hj, rfl, E⟩ := hrel
        obtain ⟨vS, E⟩ := E.out
        have E := hidb E
        obtain ⟨adr, capr, rfl⟩ := own_sh E.out.1.r
        have hrl : (iuL Ls x j).length = j := by simp [iuL]
        have HRl := hidb hrl
        rw [hrl] at E ⊢
        have HR2 := hidb E.out.1.r
        rw [hrl] at HR2
        clear hrl
        by_cases h2 : ¬ j < L
        · have h2' : ¬ (j : Int) < (L : Int) := by omega
          obtain rfl : j = L := by omega
          have HZ := hidb (show S0 ++ Q.take j = (Ls.take (x + 1)).flatten by rw [HTkx.out, List.take_of_length_le (by rw [← HQl.out]; exact Nat.le_refl _)])
          rw [HZ.out] at E
          obtain ⟨-, -, -, -, t4⟩ := at5 E.out.2
          have HQ3 := hidb E.out.1.q.o
          rw [HVs.out] at HQ3
          clear h2
          go_wp2_with (at_builtin; refine wpList_sx _ base (.slice adv x cv) vs (.slice adr j capr) x _ _ _ rfl rfl rfl rfl HVs.out (by have := H1.out; have := HNb.out.1; omega) rfl (HQ3.out.alloc _) (At.new1 _ _ _) (by have := E.out.1.b.2; simp; omega) ?_; intro g2 cap2 w2 hr2 hg2 hat2; have F2 := hidb ((E.out.1.below ((Below.refl _ _).alloc (Nat.le_refl _) (.cells #[.slice adr j capr] 37))).push HVs.out hr2.out hg2.out hat2.out); have F3 := hidb ((E.out.1.below ((Below.refl _ _).alloc (Nat.le_refl _) (.cells #[.slice adr j capr] 37))).keep HTb.out.2 (E.out.2.alloc _) hg2.out (.inl rfl)); have y0 := (at5 F3.out).2.2.2.2; have y1 := (F3.out.1 4 (by simp)).2; clear t4)
          go_roundw
          case rel => exact ⟨x + 1, H1.out, by go_num, hidb ⟨_, _, vS, by rw [HIa.out]; exact F2.out.set HTb.out.2 HTb.out.1 _ _, F3.out.put 4 _⟩⟩
          case measure => have := H1.out; simp [intOf]; omega
        · have h2' : (j : Int) < (L : Int) := by omega
          have H2 := hidb (show j < L by omega)
          have hjQ : j < Q.length := by rw [← HQl.out]; exact H2.out
          have e2 : IntKind.i64.wrap ((j : Int) + 1) = ((j + 1 : Nat) : Int) := by rw [show (j : Int) + 1 = ((j + 1 : Nat) : Int) by omega]; exact wr_in (by omega) (by have := HLx.out; have := HNb.out.2.1; have := HNn.out; omega)
          obtain ⟨⟨s0, s1⟩, -⟩ := (HSg.out _ E.out.1.g).row j hjQ
          have ixs := HSx.out j H2.out
          have HTj : Hid (S0 ++ Q.take (j + 1) = (S0 ++ Q.take j) ++ [sx Q j]) := by
            show _ = _
            rw [List.take_succ_eq_append_getElem hjQ, sx_get hjQ, List.append_assoc]
          have hsn : (S0 ++ Q.take j).length = ofx + j := by rw [List.length_append, HTlx.out, List.length_take]; omega
          have HSb := hidb (show ofx + j + 1 ≤ 4000 by have := HOx.out; have := HOa.out; have := HNb.out.2.1; have := HNn.out; have := H2.out; rw [HN.out] at *; omega)
          obtain ⟨sad, scap, rfl⟩ := own_sh E.out.1.s
          rw [hsn] at E
          have HIj := hidb (HIl.out j)
          obtain ⟨sn, hsnn⟩ : ∃ z, z = ofx + j := ⟨_, rfl⟩
          rw [← hsnn] at hsn E HSb HIj
          have Hsn := hidb hsn
          obtain ⟨p, hp⟩ : ∃ z, z = sx Q j := ⟨_, rfl⟩
          rw [← hp] at s0 s1 HTj
          obtain ⟨XB, hXB⟩ : ∃ z, z = wr.heap.size := ⟨_, rfl⟩
          have HXr : Hid ((Value.slice adr j capr).ownBlock ≠ some XB ∧ (Value.slice sad sn scap).ownBlock ≠ some XB) := ⟨fun e => by have := (E.out.1.r.lt XB e).2; omega, fun e => by have := (E.out.1.s.lt XB e).2; omega⟩
          have PX : Hid (At (wr.alloc (.cells #[.int .i64 p.1, .int .i64 p.2] 52)) XB [.int .i64 p.1, .int .i64 p.2]) := by rw [hXB]; exact At.new2 _ _ _ _
          have E8 : Hid (RT w (wr.alloc (.cells #[.int .i64 p.1, .int .i64 p.2] 52)) base (.slice adv x cv) vs Lo (.slice adr j capr) (iuL Ls x j) (.slice sad sn scap) (S0 ++ Q.take j) ∧ At (wr.alloc (.cells #[.int .i64 p.1, .int .i64 p.2] 52)) T [.int .i64 most, .slice sad sn scap, .slice none 0 0, .slice none 0 0, .slice adv x cv]) := ⟨E.out.1.below ((Below.refl _ _).alloc (Nat.le_refl _) _), E.out.2.alloc _⟩
          have HXB := hidb hXB
          have HXT := hidb (show ¬ T = XB by have := E.out.2.2; omega)
          clear h2 hjQ hsn hsnn hp hXB
          go_upto_region 9 with fail
          rw [← HXB.out]
          generalize wr.alloc (.cells #[.int .i64 p.1, .int .i64 p.2] 52) = W8 at *
          clear s0 s1 E
          obtain ⟨-, t1, -, -, -⟩ := at5 E8.out.2
          have HR8 := hidb E8.out.1.r
          rw [HRl.out] at HR8
          go_upto_region 10 with (at_builtin; refine wpList_ii _ base (.slice adr j capr) (iuL Ls x j) ((sn : Nat) : Int) j _ _ _ rfl rfl rfl rfl HRl.out (by have := HLx.out; have := HNb.out.2.1; have := HNn.out; have := H2.out; omega) (HR8.out.alloc _) (At.new1 _ _ _) (by have := E8.out.1.b.2; simp; omega) ?_; intro g2 cap2 w2 hr2 hg2 hat2; have F := hidb ((E8.out.1.below ((Below.refl _ _).alloc (Nat.le_refl _) (.cells #[.int .i64 ((sn : Nat) : Int)] 3))).app HRl.out hr2.out hg2.out hat2.out); have FT := hidb ((E8.out.1.below ((Below.refl _ _).alloc (Nat.le_refl _) (.cells #[.int .i64 ((sn : Nat) : Int)] 3))).keep HTb.out.2 (E8.out.2.alloc _) hg2.out (.inr (.inl rfl))); have FX := hidb (At.grw (PX.out.alloc (.cells #[.int .i64 ((sn : Nat) : Int)] 3)) hg2.out HXr.out.1))
          clear t1 PX E8
          refine wp_region_held_drew (S := (fun w' => w'.cell? ⟨XB, 0, none⟩ = some (.int .i64 p.1) ∧ w'.cell? ⟨XB, 1, none⟩ = some (.int .i64 p.2))) (by kernel_rfl) ?_ (fun hHeld => ?_)
          · (try dsimp only); exact FX.out.drew.c2
          replace F := hidb (F.out.below (Gr.refl w2).drew.out)
          replace FT := hidb FT.out.drew
          replace FX := hidb FX.out.drew
          generalize w2.drew = V0 at *
          refine wt (i := 0) (v := ?vk10q0x6) rfl ?hk10q0x6 ?rk10q0x6
          case hk10q0x6 => (intro w hSw; (try dsimp only at hSw); obtain ⟨x1, x2⟩ := hSw; go_simp; try with_reducible rfl)
          (try simp only [Act.put, lq1, lq2, lq4, lq5, lq6])
          refine wt (i := 1) (v := ?vk10q1x9) rfl ?hk10q1x9 ?rk10q1x9
          case hk10q1x9 => (intro w hSw; (try dsimp only at hSw); obtain ⟨x1, x2⟩ := hSw; go_simp; try with_reducible rfl)
          (try simp only [Act.put, lq1, lq2, lq3, lq4, lq5, lq6])
          refine wt (i := 2) (v := ?vk10q2x12) rfl ?hk10q2x12 ?rk10q2x12
          case hk10q2x12 => (intro w hSw; (try dsimp only at hSw); obtain ⟨x1, x2⟩ := hSw; go_simp; try with_reducible rfl)
          (try simp only [Act.put, lq1, lq2, lq3, lq4, lq5, lq6])
          refine wt (i := 3) (v := ?vk10q3x15) rfl ?hk10q3x15 ?rk10q3x15
          case hk10q3x15 => (intro w hSw; (try dsimp only at hSw); obtain ⟨x1, x2⟩ := hSw; go_simp; try with_reducible rfl)
          (try simp only [Act.put, lq1, lq2, lq3, lq4, lq5, lq6])
          refine wt (i := 5) (v := ?vk10q5x18) rfl ?hk10q5x18 ?rk10q5x18
          case hk10q5x18 => (intro w hSw; (try dsimp only at hSw); obtain ⟨x1, x2⟩ := hSw; go_simp; try with_reducible rfl)
          (try simp only [Act.put, lq1, lq2, lq3, lq4, lq5, lq6])
          refine wpAnyH_ready (rs := [4, 6]) (by kernel_rfl) (by simp) ?_
          refine AllReadyH.cons rfl (fun K hK => ?_) (AllReadyH.cons rfl (fun K hK => ?_) AllReadyH.nil)
          · skip
            have t1 := (at5 FT.out).2.1
            go_simp
            refine hK.out _ _ ?_ (fun hHeld => ?_)
            · (try dsimp only); exact FX.out.c2
            clear hK K
            clear t1
            refine wpAnyH_ready (rs := [6]) (by kernel_rfl) (by simp) ?_
            refine AllReadyH.cons rfl (fun K hK => ?_) AllReadyH.nil
            go_simp
            refine hK.out _ _ ?_ (fun hHeld => ?_)
            · (try dsimp only); exact (FX.out.alloc _).c2
            clear hK K
            have KN := hidb (At.new2 V0 (.int .i64 p.1) (.int .i64 p.2) 52)
            obtain ⟨NB, hNB⟩ : ∃ z, z = V0.heap.size := ⟨_, rfl⟩
            rw [← hNB] at KN ⊢
            clear hNB
            replace F := hidb (F.out.below ((Below.refl _ _).alloc (Nat.le_refl _) (.cells #[.int .i64 p.1, .int .i64 p.2] 52)))
            replace FT := hidb (FT.out.alloc (.cells #[.int .i64 p.1, .int .i64 p.2] 52))
            replace FX := hidb (FX.out.alloc (.cells #[.int .i64 p.1, .int .i64 p.2] 52))
            generalize V0.alloc (.cells #[.int .i64 p.1, .int .i64 p.2] 52) = V1 at *
            refine wpAnyH_ready (rs := [7]) (by kernel_rfl) (by simp) ?_
            refine AllReadyH.cons rfl (fun K hK => ?_) AllReadyH.nil
            have HS3 := hidb F.out.s
            rw [Hsn.out] at HS3
            refine step_s2 _ base (.slice sad sn scap) (S0 ++ Q.take j) p sn _ _ _ rfl rfl rfl rfl Hsn.out (by have := HSb.out; omega) HS3.out KN.out F.out.b.2 ?_
            intro g3 cap3 V2 hr3 hg3 hat3
            have F4 := hidb (F.out.apS Hsn.out hr3.out hg3.out hat3.out)
            have FT4 := hidb (F.out.keep HTb.out.2 FT.out hg3.out (.inr (.inr rfl)))
            have FX4 := hidb (At.grw FX.out hg3.out HXr.out.2)
            refine hK.out _ _ ?_ (fun hHeld => ?_)
            · (try dsimp only); exact FX4.out.c2
            clear hK K
            clear F FT FX KN HS3 hr3 hg3 hat3
            refine wt (i := 8) (v := ?vk10q8x57) rfl ?hk10q8x57 ?rk10q8x57
            case hk10q8x57 => (intro w hSw; (try dsimp only at hSw); obtain ⟨x1, x2⟩ := hSw; go_simp; try with_reducible rfl)
            (try simp only [Act.put, lq1, lq2, lq3, lq4, lq5, lq6])
            refine wt (i := 9) (v := ?vk10q9x60) rfl ?hk10q9x60 ?rk10q9x60
            case hk10q9x60 => (intro w hSw; (try dsimp only at hSw); obtain ⟨x1, x2⟩ := hSw; go_simp; try with_reducible rfl)
            (try simp only [Act.put, lq1, lq2, lq3, lq4, lq5, lq6])
            refine wpAnyH_ready (rs := [10]) (by kernel_rfl) (by simp) ?_
            refine AllReadyH.cons rfl (fun K hK => ?_) AllReadyH.nil
            have t1 := (at5 FT4.out).2.1
            have f1 := (FT4.out.1 1 (by simp)).2
            go_simp
            refine hK.out _ _ ?_ (fun hHeld => ?_)
            · (try dsimp only); exact (FX4.out.skip HXT.out _ _).c2
            clear hK K
            clear t1 f1
            refine wpAnyH_done (by kernel_rfl) ?_ _
            go_wp2_with fail
            go_roundw
            case rel => exact ⟨j + 1, H2.out, by go_num, hidb ⟨_, by rw [HIj.out, HTj.out]; exact F4.out.set HTb.out.2 HTb.out.1 _ _, FT4.out.put 1 _⟩⟩
            case measure => have := H2.out; simp [intOf]; omega
          · skip
            go_simp
            refine hK.out _ _ ?_ (fun hHeld => ?_)
            · (try dsimp only); exact (FX.out.alloc _).c2
            clear hK K
            have KN := hidb (At.new2 V0 (.int .i64 p.1) (.int .i64 p.2) 52)
            obtain ⟨NB, hNB⟩ : ∃ z, z = V0.heap.size := ⟨_, rfl⟩
            rw [← hNB] at KN ⊢
            clear hNB
            replace F := hidb (F.out.below ((Below.refl _ _).alloc (Nat.le_refl _) (.cells #[.int .i64 p.1, .int .i64 p.2] 52)))
            replace FT := hidb (FT.out.alloc (.cells #[.int .i64 p.1, .int .i64 p.2] 52))
            replace FX := hidb (FX.out.alloc (.cells #[.int .i64 p.1, .int .i64 p.2] 52))
            generalize V0.alloc (.cells #[.int .i64 p.1, .int .i64 p.2] 52) = V3 at *
            refine wpAnyH_ready (rs := [4]) (by kernel_rfl) (by simp) ?_
            refine AllReadyH.cons rfl (fun K hK => ?_) AllReadyH.nil
            have t1 := (at5 FT.out).2.1
            go_simp
            refine hK.out _ _ ?_ (fun hHeld => ?_)
            · (try dsimp only); exact FX.out.c2
            clear hK K
            clear t1
            refine wpAnyH_ready (rs := [7]) (by kernel_rfl) (by simp) ?_
            refine AllReadyH.cons rfl (fun K hK => ?_) AllReadyH.nil
            have HS3 := hidb F.out.s
            rw [Hsn.out] at HS3
            refine step_s2 _ base (.slice sad sn scap) (S0 ++ Q.take j) p sn _ _ _ rfl rfl rfl rfl Hsn.out (by have := HSb.out; omega) HS3.out KN.out F.out.b.2 ?_
            intro g3 cap3 V4 hr3 hg3 hat3
            have F4 := hidb (F.out.apS Hsn.out hr3.out hg3.out hat3.out)
            have FT4 := hidb (F.out.keep HTb.out.2 FT.out hg3.out (.inr (.inr rfl)))
            have FX4 := hidb (At.grw FX.out hg3.out HXr.out.2)
            refine hK.out _ _ ?_ (fun hHeld => ?_)
            · (try dsimp only); exact FX4.out.c2
            clear hK K
            clear F FT FX KN HS3 hr3 hg3 hat3
            refine wt (i := 8) (v := ?vk10q8x111) rfl ?hk10q8x111 ?rk10q8x111
            case hk10q8x111 => (intro w hSw; (try dsimp only at hSw); obtain ⟨x1, x2⟩ := hSw; go_simp; try with_reducible rfl)
            (try simp only [Act.put, lq1, lq2, lq3, lq4, lq5, lq6])
            refine wt (i := 9) (v := ?vk10q9x114) rfl ?hk10q9x114 ?rk10q9x114
            case hk10q9x114 => (intro w hSw; (try dsimp only at hSw); obtain ⟨x1, x2⟩ := hSw; go_simp; try with_reducible rfl)
            (try simp only [Act.put, lq1, lq2, lq3, lq4, lq5, lq6])
            refine wpAnyH_ready (rs := [10]) (by kernel_rfl) (by simp) ?_
            refine AllReadyH.cons rfl (fun K hK => ?_) AllReadyH.nil
            have t1 := (at5 FT4.out).2.1
            have f1 := (FT4.out.1 1 (by simp)).2
            go_simp
            refine hK.out _ _ ?_ (fun hHeld => ?_)
            · (try dsimp only); exact (FX4.out.skip HXT.out _ _).c2
            clear hK K
            clear t1 f1
            refine wpAnyH_done (by kernel_rfl) ?_ _
            go_wp2_with fail
            go_roundw
            case rel => exact ⟨j + 1, H2.out, by go_num, hidb ⟨_, by rw [HIj.out, HTj.out]; exact F4.out.set HTb.out.2 HTb.out.1 _ _, FT4.out.put 1 _⟩⟩
            case measure => have := H2.out; simp [intOf]; omega
end Go.Proofs.YtnadgoomkaldkaaDoor
