/-
  DrainStreams, where the raster is right.
-/
import Derived.Test.YtlhligeicnejbaaDoorQJ14
import Derived.Deep.LoopGhost
namespace Go.Proofs.YtlhligeicnejbaaDoor
open Go.RowKit
attribute [local go_sem ↓] Go.wp_at_zero Go.wp_at_succ

theorem bgs_pre (m n : Nat) (l : List Int) (q : Int) (k : Nat) : ∀ d, ∃ r, bgs m n l q (k + d) = bgs m n l q k ++ r
  | 0 => ⟨[], by simp⟩
  | d + 1 => by
    obtain ⟨r, hr⟩ := bgs_pre m n l q k d
    exact ⟨_, by rw [← Nat.add_assoc, bgs_succ, hr, List.append_assoc]⟩
theorem bgs_at {m n : Nat} {l : List Int} {q : Int} {i N : Nat} (hi : i < N) (hb : bgB m n l q i = true) : (bgs m n l q i).length < (bgs m n l q N).length ∧ (bgs m n l q N).getD (bgs m n l q i).length 0 = i := by
  obtain ⟨r, hr⟩ := bgs_pre m n l q (i + 1) (N - (i + 1))
  rw [show i + 1 + (N - (i + 1)) = N by omega, bgs_succ, hb, if_pos rfl] at hr
  rw [hr]
  exact ⟨by simp, by simp⟩
theorem row_some {w : World} {base e n n' : Nat} {ad : Option Addr} {cap : Nat} {xs : List Value} (h : w.ownsRow base e 1 (.slice ad n' cap) n xs) (hn : 0 < n) : ∃ g, ad = some ⟨g, 0, none⟩ := by
  obtain ⟨_, h2 | ⟨g, cp, cur, hv, _⟩⟩ := h
  · exact absurd h2.2 (by omega)
  · simp only [Value.slice.injEq] at hv
    exact ⟨g, hv.1⟩
theorem str_ref {m n TO ON : Nat} {l Lt : List Int} (ok : Ok l m n) (q : Int) (v1 v3 : Value) (hLt : TwL m n l Lt) (c : Nat) (hc : c < l.length) (w : World) (hT : At w TO (ir Lt)) (hO : At w ON (br (bF l.length (stB m n l q)))) : Calls Tryd.prog 13 #[.agg #[v1, .slice (some ⟨TO, 0, none⟩) l.length l.length, v3], .slice (some ⟨ON, 0, none⟩) l.length l.length, .int .i64 (c : Int)] w fun e w' => e = .returned (.int .i64 (so m n l q c : Int)) ∧ Gr w w' := by
  obtain ⟨p, hp, rfl⟩ := oc_all m n l ok.m1 ok.len hc
  exact strahler_ref ok q v1 v3 hLt (l.length - p) p hp (by omega) w hT hO
set_option maxRecDepth 4000 in
set_option maxHeartbeats 16000000 in
theorem dstreams_C (g : Nat → Addr) {m n pb po b o cap : Nat} {l : List Int} (q : Int) (hq : 1 ≤ q) (w : World) (hl : Laid w g) (ra2 : Rin w pb po m n (some ⟨b, o, none⟩) b o cap l) (hr : Rs w b o cap l) (ok : Ok l m n) (ll : l.length ≤ 80) (hv : vcode m n l = 0) : Calls Tryd.prog 3 #[.pointer (some ⟨pb, po, none⟩), .int .i64 q] w fun e w' => e = .returned (.bool true) ∧ Gr w w' := by
  have CR := hidb (drains_any g w hl.lai)
  have S1 := hidb (fun W1 (hG : Gr w W1) => small4_any pb po m n (some ⟨b, o, none⟩) l.length cap W1 (ra2.below hG).pt)
  rw [decide_eq_true ll] at S1
  have C1 := hidb (fun W1 (hG : Gr w W1) => streams_ok g q hq W1 (hr.below hG.out) ok hv (hl.below hG.out).lai)
  have C2 := hidb (fun W1 (hG : Gr w W1) => strahler_ok g q hq W1 (hr.below hG.out) ok hv (hl.below hG.out).lai)
  have CW := hidb (fun W1 (hG : Gr w W1) => rasterError_any pb po m n (some ⟨b, o, none⟩) b o cap l W1 (ra2.below hG).pt (ra2.below hG).sl (by omega))
  rw [hv] at CW
  have CF := hidb (fun W1 (hG : Gr w W1) => floodOf_any W1 (ra2.below hG).pt (hr.below hG.out) ok)
  have HSr := hidb (fun TO Lt v1 v3 W (hT : At W TO (ir Lt)) (hLt : TwL m n l Lt) => streamsRef_any ok q v1 v3 W hT hLt)
  have HSo := hidb (fun TO ON Lt v1 v3 (hLt : TwL m n l Lt) c hc W hT hO => str_ref (ON := ON) (TO := TO) ok q v1 v3 hLt c hc W hT hO)
  have HR := hidb ra2
  have HL := hidb (show 1 ≤ l.length ∧ l.length ≤ 80 from ⟨by rw [ok.len]; exact Nat.mul_le_mul ok.m1 ok.n1, ll⟩)
  have HOk := hidb ok
  obtain ⟨N, hN⟩ : ∃ N, N = l.length := ⟨_, rfl⟩
  have HN := hidb hN
  have hq' : ¬ q < 1 := by omega
  rw [← hN] at C1 C2 CF HSr HSo HL
  unfold raV at C1 C2
  clear hl ra2 hr ok ll hv hN hq
  go_enter Tryd.func3, Tryd.ntmps3
  go_wp2_with fail
  refine CR.out.mono ?_
  rintro e w1 ⟨rfl, hB⟩
  have G := hidb hB
  clear hB
  go_wp2_with fail
  refine (S1.out _ G.out).mono ?_
  rintro e w2 ⟨rfl, rfl⟩
  obtain ⟨p0, p1, p2⟩ := (HR.out.below G.out).pt.all
  rw [← HN.out] at p2
  go_wp2_with fail
  refine (C1.out _ G.out).mono ?_
  rintro e w3 ⟨vS, rfl, hQ, hB3⟩
  have SQ := hidb hQ
  replace G := hidb (Gr.step G.out hB3.out)
  clear hB3 p0 p1 p2 hQ
  obtain ⟨p0, p1, p2⟩ := (HR.out.below G.out).pt.all
  rw [← HN.out] at p2
  go_wp2_with fail
  refine (C2.out _ G.out).mono ?_
  rintro e w5 ⟨OUT, rfl, hO, hB5⟩
  have AO := hidb hO
  replace SQ := hidb (SQ.out.below hB5.out)
  replace G := hidb (Gr.step G.out hB5.out)
  clear hB5 p0 p1 p2 hO
  go_wp2_with fail
  refine (CW.out _ G.out).mono ?_
  rintro e w7 ⟨rfl, hB7⟩
  replace AO := hidb (At.below hB7.out AO.out)
  replace SQ := hidb (SQ.out.below hB7.out)
  replace G := hidb (Gr.step G.out hB7.out)
  clear hB7
  go_wp2_with fail
  refine (CF.out _ G.out).mono ?_
  rintro e w8 ⟨FI, TO, bs2, vo2, Lf, Lt, Ls, rfl, hFI, hTO, hvo2, -, hRs, hB8⟩
  replace AO := hidb (At.below hB8.out AO.out)
  replace SQ := hidb (SQ.out.below hB8.out)
  replace G := hidb (Gr.step G.out hB8.out)
  have HTw : Hid (TwL m n l Lt) := by
    rw [HN.out] at hRs
    exact TwL.of HOk.out hRs
  have ATO := hidb hTO
  obtain ⟨ado, capo, rfl⟩ := own_shape1' hvo2
  clear hB8 hFI hTO hvo2 hRs C1 C2 CW CF CR S1
  have A12 := hidb (At.new3 w8 (.slice (some ⟨FI, 0, none⟩) N N) (.slice (some ⟨TO, 0, none⟩) N N) (.slice ado (flo m n l N).ord.length capo) 38)
  have hal := hidb ((Below.refl w8.heap.size w8).alloc (Nat.le_refl _) (.cells #[.slice (some ⟨FI, 0, none⟩) N N, .slice (some ⟨TO, 0, none⟩) N N, .slice ado (flo m n l N).ord.length capo] 38))
  replace G := hidb (Gr.step G.out hal.out)
  replace AO := hidb (At.below hal.out AO.out)
  replace SQ := hidb (SQ.out.below hal.out)
  replace ATO := hidb (At.below hal.out ATO.out)
  clear hal
  obtain ⟨T12, hT12⟩ : ∃ z, z = w8.heap.size := ⟨_, rfl⟩
  go_upto_region 13 with fail
  rw [← hT12] at A12 ⊢
  generalize w8.alloc (.cells #[.slice (some ⟨FI, 0, none⟩) N N, .slice (some ⟨TO, 0, none⟩) N N, .slice ado (flo m n l N).ord.length capo] 38) = w9 at *
  clear hT12
  obtain ⟨t0, t1, t2⟩ := A12.out.c3
  have HS1 := hidb (HSr.out TO Lt (.slice (some ⟨FI, 0, none⟩) N N) (.slice ado (flo m n l N).ord.length capo) w9 ATO.out HTw.out)
  replace HSo := hidb (fun ON => HSo.out TO ON Lt (.slice (some ⟨FI, 0, none⟩) N N) (.slice ado (flo m n l N).ord.length capo) HTw.out)
  generalize (flo m n l N).ord.length = flN at *
  go_wp2_with fail
  refine HS1.out.mono ?_
  rintro e w10 ⟨ON, INN, rfl, hON, hIN, hB10⟩
  have AON := hidb hON
  have AIN := hidb hIN
  replace G := hidb (Gr.step G.out hB10.out)
  replace AO := hidb (At.below hB10.out AO.out)
  replace SQ := hidb (SQ.out.below hB10.out)
  replace ATO := hidb (At.below hB10.out ATO.out)
  replace A12 := hidb (At.below hB10.out A12.out)
  clear hB10 HS1 HSr t0 t1 t2 hON hIN
  obtain ⟨base, vs, LS, hRQ, hRS⟩ := SQ.out
  obtain ⟨ad1, cap1, rfl⟩ := own_shape1' hRQ.o
  have HM : Hid (vs.length = (bgs m n l q N).length) := by
    have h1 := hRQ.n
    have h2 := hRS.1
    rw [← HN.out] at h2
    show _ = _
    omega
  have HRS : Hid (∀ i, i < N → bgB m n l q i = true → ∃ kk, Stops m n l q i kk ∧ lxx LS (bgs m n l q i).length = on (pth m n l i kk)) := fun i hi hb => by
    obtain ⟨h1, h2⟩ := bgs_at hi hb
    have := hRS.2 (bgs m n l q i).length (by rw [← HN.out]; exact h1)
    rw [← HN.out, h2] at this
    obtain ⟨kk, h3, _, h4⟩ := this
    exact ⟨kk, h3, h4⟩
  have HRQ := hidb hRQ
  generalize hMM : vs.length = M at *
  have HMM := hidb hMM
  have HMl : Hid (M ≤ N) := by rw [HM.out]; exact bgs_len m n l q N
  clear SQ hRQ hRS hMM
  go_upto_region 16 with fail
  rw [show decide (q < 1) = false from decide_eq_false (by omega)]
  go_loopw [15, 16] (fun s t wr => ∃ i : Nat, i ≤ N ∧ s = .int .i64 ((bgs m n l q i).length : Int) ∧ t = .int .i64 (i : Int) ∧ Hid (Gr w10 wr)) (fun _ t _ => N - (intOf t).toNat)
  case atStart => exact ⟨0, Nat.zero_le _, rfl, rfl, hidb (Gr.refl _)⟩
  case round =>
    obtain ⟨i, hi, rfl, rfl, E⟩ := hrel
    by_cases h1 : ¬ i < N
    · have h1' : ¬ (i : Int) < (N : Int) := by omega
      obtain rfl : i = N := by omega
      have hkM : (bgs m n l q i).length = M := HM.out.symm
      rw [hkM]
      have hLN := HL.out
      clear h1 hkM
      go_upto_region 32 with fail
      go_loopw [20] (fun t wr2 => ∃ j : Nat, j ≤ i ∧ t = .int .i64 (j : Int) ∧ Hid (Gr w10 wr2)) (fun t _ => i - (intOf t).toNat)
      case atStart => exact ⟨0, Nat.zero_le _, rfl, E⟩
      case round =>
        clear E
        obtain ⟨j, hj, rfl, E⟩ := hrel
        by_cases h2 : ¬ j < i
        · have h2' : ¬ (j : Int) < (i : Int) := by omega
          have HZ := hidb (Gr.step G.out E.out.out)
          clear h2
          go_wp2
          go_ret
          exact ⟨rfl, HZ.out⟩
        · have h2' : (j : Int) < (i : Int) := by omega
          have hji : j < i := by omega
          have H2 := hidb hji
          have e1 : IntKind.i64.wrap ((j : Int) + 1) = ((j + 1 : Nat) : Int) := by rw [show (j : Int) + 1 = ((j + 1 : Nat) : Int) by omega]; exact wrap_in (by omega) (by omega)
          have ixS := bindex ON i i j hji
          have ixO := iindex OUT 0 i i j hji
          rw [Nat.zero_add] at ixO
          have cS := ((At.below E.out.out AON.out).gb hji).1
          have cO := ((At.below E.out.out AO.out).gi hji).1
          obtain ⟨t0, t1, t2⟩ := (At.below E.out.out A12.out).c3
          have HCo := hidb (HSo.out ON j hji _ (At.below E.out.out ATO.out) (At.below E.out.out AON.out))
          have HAO := hidb (fun W (hG : Gr w10 W) => ((At.below hG.out AO.out).gi hji).1)
          cases hs : stB m n l q j with
          | false =>
            rw [hs] at cS
            rw [hs, if_neg (by decide)] at cO
            clear hs h2 hji HCo HAO hLN
            go_wp2
            go_roundw
            case rel => exact ⟨j + 1, H2.out, by go_num, E⟩
            case measure => have := H2.out; simp [intOf]; omega
          | true =>
            rw [hs] at cS
            rw [hs, if_pos rfl] at HAO
            generalize (so m n l q j : Int) = sj at *
            clear hs h2 hji cO hLN
            go_wp2_with fail
            refine HCo.out.mono ?_
            rintro e w12 ⟨rfl, hB12⟩
            have E12 := hidb (Gr.step E.out hB12.out)
            have cO := HAO.out _ E12.out
            clear hB12 E t0 t1 t2 cS
            go_wp2
            go_roundw
            case rel => exact ⟨j + 1, H2.out, by go_num, E12⟩
            case measure => have := H2.out; simp [intOf]; omega
    · have h1' : (i : Int) < (N : Int) := by omega
      have hiN : i < N := by omega
      have H1 := hidb hiN
      have e1 : IntKind.i64.wrap ((i : Int) + 1) = ((i + 1 : Nat) : Int) := by rw [show (i : Int) + 1 = ((i + 1 : Nat) : Int) by omega]; exact wrap_in (by have := HL.out; omega) (by have := HL.out; omega)
      have HE1 := hidb e1
      have ixS := bindex ON N N i hiN
      have ixI := iindex INN 0 N N i hiN
      rw [Nat.zero_add] at ixI
      have cS := ((At.below E.out.out AON.out).gb hiN).1
      have cI := ((At.below E.out.out AIN.out).gi hiN).1
      have hbg : bgB m n l q i = (stB m n l q i && !decide (inK m n l q N i = 1)) := by unfold bgB; rw [← HN.out]
      have hsc := bgs_succ m n l q i
      cases hs : stB m n l q i with
      | false =>
        rw [hs] at cS
        rw [hbg, hs] at hsc
        simp only [Bool.false_and, Bool.false_eq_true, if_false, List.append_nil] at hsc
        have HSc := hidb hsc
        rw [← HSc.out]
        clear hs hbg hsc h1 hiN cI ixI
        go_wp2
        go_roundw
        case rel => exact ⟨i + 1, H1.out, rfl, by go_num, E⟩
        case measure => have := H1.out; simp [intOf]; omega
      | true =>
        rw [hs] at cS
        by_cases hin : inK m n l q N i = 1
        · rw [hin] at cI
          rw [hbg, hs, decide_eq_true hin] at hsc
          simp only [Bool.not_true, Bool.and_false, Bool.false_eq_true, if_false, List.append_nil] at hsc
          have HSc := hidb hsc
          rw [← HSc.out]
          clear hs hbg hsc h1 hiN hin
          go_wp2
          go_roundw
          case rel => exact ⟨i + 1, H1.out, rfl, by go_num, E⟩
          case measure => have := H1.out; simp [intOf]; omega
        · have hbt : bgB m n l q i = true := by rw [hbg, hs, decide_eq_false hin]; rfl
          rw [hbt, if_pos rfl] at hsc
          have hin' : ¬ (inK m n l q N i : Int) = 1 := by omega
          generalize (inK m n l q N i : Int) = yi at *
          have HSc := hidb hsc
          have HBt := hidb hbt
          obtain ⟨kk0, hst0, hlx0⟩ := HRS.out i hiN hbt
          have HSt := hidb hst0
          have HLx := hidb hlx0
          have HSW : Hid (∀ k, stB m n l q (itw m n l k i) = true ∧ itw m n l k i < N) := fun k => by
            have := st_way m n l q HOk.out.m1 HOk.out.len (c := i) (by rw [← HN.out]; exact hiN) hs k
            rw [← HN.out] at this
            exact this
          obtain ⟨hat1, hat2⟩ := bgs_at hiN hbt
          have HAt := hidb (show (bgs m n l q i).length < M by rw [HM.out]; exact hat1)
          obtain ⟨p, hp, hpi⟩ := oc_all m n l HOk.out.m1 HOk.out.len (c := i) (by rw [← HN.out]; exact hiN)
          have HP := hidb (show p < l.length ∧ oc m n l p = i from ⟨hp, hpi⟩)
          have HO := hidb (own_one wr 3 (.int .i64 (i : Int)))
          have GA := hidb (show Gr w10 (wr.alloc (.cells #[.int .i64 (i : Int)] 3)) ∧ wr.heap.size ≤ (wr.alloc (.cells #[.int .i64 (i : Int)] 3)).heap.size from ⟨E.out.alloc _, by simp⟩)
          have HWr := hidb (show w10.heap.size ≤ wr.heap.size from E.out.out.size)
          clear hs hbg hsc h1 hiN hin hbt hst0 hlx0 hat1 hat2 hp hpi e1
          go_upto_region 21 with fail
          generalize hb0 : wr.heap.size = base0 at *
          clear hb0
          generalize wr.alloc (.cells #[.int .i64 (i : Int)] 3) = w11 at *
          clear cS cI ixS ixI E
          rw [show (yi == 1) = false from beq_eq_false_iff_ne.2 hin']
          go_loopg [17, 18] p (fun gk v s wr => ∃ (k x : Nat), s = .int .i64 (x : Int) ∧ Hid ((gk < l.length ∧ oc m n l gk = x ∧ itw m n l k i = x ∧ k + gk ≤ p) ∧ (∀ j, j < k → tw m n l (itw m n l j i) ≠ itw m n l j i) ∧ (∀ j, 0 < j → j < k + 1 → bgB m n l q (itw m n l j i) = false) ∧ wr.ownsRow base0 3 1 v (k + 1) (ir (on (pth m n l i k))) ∧ Gr w10 wr ∧ base0 ≤ wr.heap.size))
          case atStart => exact ⟨0, i, rfl, hidb ⟨⟨HP.out.1, HP.out.2, rfl, by omega⟩, fun j hj => absurd hj (Nat.not_lt_zero _), fun j h1 h2 => by omega, HO.out, GA.out⟩⟩
          case round =>
            clear HO GA
            obtain ⟨k, x, rfl, E⟩ := hrel
            obtain ⟨⟨hg, hgx, hkx, hkp⟩, hmn, hbn, hO, hG, hb0⟩ := E.out
            clear E
            have hxl : x < N := by rw [← hkx]; exact (HSW.out k).2
            have ixT := iindex TO 0 N N x hxl
            rw [Nat.zero_add] at ixT
            have hxl' : x < Lt.length := by rw [HTw.out.1, ← HN.out]; exact hxl
            have cT := ((At.below hG.out ATO.out).get (j := x) hxl').1
            rw [gl_get hxl', HTw.out.2 x (by rw [← HN.out]; exact hxl)] at cT
            obtain ⟨t0, t1, t2⟩ := (At.below hG.out A12.out).c3
            obtain ⟨ad2, cap2, rfl⟩ := own_shape1' hO
            by_cases hf : tw m n l x = x
            · have HKb := hidb (show k ≤ p by omega)
              have HStk : Hid (Stops m n l q i k) := ⟨.inl (by rw [hkx]; exact hf), hmn, fun j h1 h2 => hbn j h1 (by omega)⟩
              have EE := hidb (show wr.ownsRow base0 3 1 (.slice ad2 (k + 1) cap2) (k + 1) (ir (on (pth m n l i k))) ∧ Gr w10 wr from ⟨hO, hG⟩)
              rw [hf] at cT
              clear hg hgx hkx hkp hmn hbn hO hG hb0 hf hxl hxl'
              have hke : k = kk0 := Stops.uniq HStk.out HSt.out
              have HRqi := hidb (HRQ.out.below EE.out.2.out)
              obtain ⟨gO, hgO⟩ := row_some HRQ.out.o (by have h1 := HAt.out; have h2 := HMM.out; omega)
              have cV := HRqi.out.cell (gO := gO) (cap := cap1) (j := (bgs m n l q i).length) (by rw [hgO, HMM.out]) (by rw [HMM.out]; exact HAt.out)
              have hrow := HRqi.out.i (bgs m n l q i).length (by rw [HMM.out]; exact HAt.out)
              rw [HLx.out, ← hke] at hrow
              have HPl : Hid ((on (pth m n l i k)).length = k + 1) := by show _ = _; rw [List.length_map, pth_len]
              rw [HPl.out] at hrow
              obtain ⟨adv, bv, capv, hvx, hIv⟩ := own_isl2 hrow
              obtain ⟨adw, bw, capw, hvw, hIw⟩ := own_isl2 EE.out.1
              rw [HPl.out] at hvx hvw
              rw [hvx] at cV
              simp only [Value.slice.injEq, true_and] at hvw
              obtain ⟨rfl, rfl⟩ := hvw
              have HSa := hidb (sameInts_eq (l := on (pth m n l i k)) (by rw [HPl.out]; have h1 := HMl.out; have h2 := HL.out; have h3 := HSt.out; have h4 := HP.out.1; have h5 := HN.out; have h6 := HKb.out; omega) _ hIv hIw)
              rw [HPl.out] at HSa
              subst hgO
              have hlt : ((bgs m n l q i).length : Int) < (M : Int) := by have := HAt.out; omega
              have ixV := tindex gO M cap1 (bgs m n l q i).length HAt.out
              have e2 : IntKind.i64.wrap (((bgs m n l q i).length : Int) + 1) = ((bgs m n l q (i + 1)).length : Int) := by
                have h1 := HSc.out
                have h2 := HAt.out
                have h3 := HMl.out
                have h4 := HL.out
                rw [h1, List.length_append, List.length_singleton]
                rw [show ((bgs m n l q i).length : Int) + 1 = (((bgs m n l q i).length + 1 : Nat) : Int) by omega]
                exact wrap_in (by omega) (by omega)
              have G9 := hidb EE.out.2
              generalize ((bgs m n l q i).length : Int) = bI at *
              clear hrow hvx hIv hIw hke HRqi EE
              go_wp2_with fail
              refine HSa.out.mono ?_
              rintro e w15 ⟨rfl, hB15⟩
              have G15 := hidb (Gr.step G9.out hB15.out)
              have e1 := HE1.out
              clear hB15 G9 HSa cV
              go_wp2
              go_roundw
              case rel => exact ⟨i + 1, H1.out, rfl, by go_num, G15⟩
              case measure => have := H1.out; simp [intOf]; omega
            · obtain ⟨j, hj, hjx⟩ : ∃ j, j < gk ∧ oc m n l j = tw m n l x := by
                have h := oc_bef m n l HOk.out.m1 HOk.out.len (k := gk) hg
                rw [hgx] at h
                exact h.resolve_left hf
              have hky : itw m n l (k + 1) i = tw m n l x := by rw [itw_succ, hkx]
              have hyl : tw m n l x < N := by rw [← hky]; exact (HSW.out (k + 1)).2
              have hyb : bgB m n l q (tw m n l x) = !decide (inK m n l q N (tw m n l x) = 1) := by
                have h1 := (HSW.out (k + 1)).1
                rw [hky] at h1
                unfold bgB
                rw [h1, ← HN.out]; rfl
              have hf' : ¬ ((tw m n l x : Nat) : Int) = (x : Int) := by omega
              have HSn : Hid (on (pth m n l i k) ++ [(tw m n l x : Int)] = on (pth m n l i (k + 1))) := by show _ = _; rw [pth_snoc, hky]; simp [on]
              have HMn : Hid (∀ j, j < k + 1 → tw m n l (itw m n l j i) ≠ itw m n l j i) := fun j hj => by
                by_cases e : j = k
                · rw [e, hkx]; exact hf
                · exact hmn j (by omega)
              have HBn := hidb hbn
              have HJ := hidb (show j < gk ∧ j < l.length ∧ oc m n l j = tw m n l x ∧ itw m n l (k + 1) i = tw m n l x ∧ k + 1 + j ≤ p from ⟨hj, by omega, hjx, hky, by omega⟩)
              have HKl := hidb (show (on (pth m n l i k)).length = k + 1 ∧ k + 1 ≤ 20000 from ⟨by rw [List.length_map, pth_len], by have := HL.out; have := HP.out; have := HN.out; omega⟩)
              have EO := hidb (show wr.ownsRow base0 3 1 (.slice ad2 (k + 1) cap2) (k + 1) (ir (on (pth m n l i k))) ∧ Gr w10 wr ∧ base0 ≤ wr.heap.size from ⟨hO, hG, hb0⟩)
              have ixI := iindex INN 0 N N (tw m n l x) hyl
              rw [Nat.zero_add] at ixI
              have HCi := hidb (fun W (hG : Gr w10 W) => ((At.below hG.out AIN.out).gi hyl).1)
              have HYb := hidb hyb
              have hik : (inK m n l q N (tw m n l x) : Int) = 1 ↔ inK m n l q N (tw m n l x) = 1 := by omega
              have HIk := hidb hik
              generalize (inK m n l q N (tw m n l x) : Int) = yi2 at *
              generalize tw m n l x = y at *
              clear hg hgx hkx hkp hmn hbn hO hG hb0 hf hxl hxl' hj hjx hyl hky hyb hik
              go_upto_region 24 with (at_builtin; refine wpList_i1 _ base0 (.slice ad2 (k + 1) cap2) (on (pth m n l i k)) (y : Int) (k + 1) wr.heap.size _ _ rfl rfl rfl rfl HKl.out.1 HKl.out.2 (EO.out.1.alloc _) (At.new1 _ _ _) (by have := EO.out.2.2; simp; omega) ?_; intro g2 cap2' w13 hown hgrow; have G13 := hidb (gr_app EO.out.2.1 EO.out.1 HWr.out hgrow.out); have S13 := hidb (show base0 ≤ w13.heap.size by have h1 := hgrow.out.size; have h2 := EO.out.2.2; simp at h1; omega); rw [HSn.out] at hown; clear hgrow EO)
              have cI := HCi.out _ G13.out
              have E13 := hidb (show w13.ownsRow base0 3 1 (.slice (some ⟨g2, 0, none⟩) (k + 1 + 1) cap2') (k + 1 + 1) (ir (on (pth m n l i (k + 1)))) ∧ Gr w10 w13 ∧ base0 ≤ w13.heap.size from ⟨hown.out, G13.out, S13.out⟩)
              clear hown G13 S13 t0 t1 t2 cT ixT
              by_cases hyi : yi2 = 1
              · have HBn2 : Hid (∀ j, 0 < j → j < k + 1 + 1 → bgB m n l q (itw m n l j i) = false) := fun j h1 h2 => by
                  by_cases e : j = k + 1
                  · rw [e, HJ.out.2.2.2.1, HYb.out, decide_eq_true (HIk.out.1 hyi)]; rfl
                  · exact HBn.out j h1 (by omega)
                subst hyi
                go_wp2
                go_roundg j
                case measure => exact HJ.out.1
                case rel => exact ⟨k + 1, y, rfl, hidb ⟨⟨HJ.out.2.1, HJ.out.2.2.1, HJ.out.2.2.2.1, HJ.out.2.2.2.2⟩, HMn.out, HBn2.out, E13.out⟩⟩
              · have HKb := hidb (show k + 1 ≤ p by have := HJ.out; omega)
                have HStk : Hid (Stops m n l q i (k + 1)) := ⟨.inr ⟨by omega, by rw [HJ.out.2.2.2.1, HYb.out, decide_eq_false (fun e => hyi (HIk.out.2 e))]; rfl⟩, HMn.out, fun j h1 h2 => HBn.out j h1 (by omega)⟩
                have EE := hidb (show w13.ownsRow base0 3 1 (.slice (some ⟨g2, 0, none⟩) (k + 1 + 1) cap2') (k + 1 + 1) (ir (on (pth m n l i (k + 1)))) ∧ Gr w10 w13 from ⟨E13.out.1, E13.out.2.1⟩)
                clear E13 HCi
                generalize hk1 : k + 1 = k at *
                clear hk1
                have hke : k = kk0 := Stops.uniq HStk.out HSt.out
                have HRqi := hidb (HRQ.out.below EE.out.2.out)
                obtain ⟨gO, hgO⟩ := row_some HRQ.out.o (by have h1 := HAt.out; have h2 := HMM.out; omega)
                have cV := HRqi.out.cell (gO := gO) (cap := cap1) (j := (bgs m n l q i).length) (by rw [hgO, HMM.out]) (by rw [HMM.out]; exact HAt.out)
                have hrow := HRqi.out.i (bgs m n l q i).length (by rw [HMM.out]; exact HAt.out)
                rw [HLx.out, ← hke] at hrow
                have HPl : Hid ((on (pth m n l i k)).length = k + 1) := by show _ = _; rw [List.length_map, pth_len]
                rw [HPl.out] at hrow
                obtain ⟨adv, bv, capv, hvx, hIv⟩ := own_isl2 hrow
                obtain ⟨adw, bw, capw, hvw, hIw⟩ := own_isl2 EE.out.1
                rw [HPl.out] at hvx hvw
                rw [hvx] at cV
                simp only [Value.slice.injEq, true_and] at hvw
                obtain ⟨rfl, rfl⟩ := hvw
                have HSa := hidb (sameInts_eq (l := on (pth m n l i k)) (by rw [HPl.out]; have h1 := HMl.out; have h2 := HL.out; have h3 := HSt.out; have h4 := HP.out.1; have h5 := HN.out; have h6 := HKb.out; omega) _ hIv hIw)
                rw [HPl.out] at HSa
                subst hgO
                have hlt : ((bgs m n l q i).length : Int) < (M : Int) := by have := HAt.out; omega
                have ixV := tindex gO M cap1 (bgs m n l q i).length HAt.out
                have e2 : IntKind.i64.wrap (((bgs m n l q i).length : Int) + 1) = ((bgs m n l q (i + 1)).length : Int) := by
                  have h1 := HSc.out
                  have h2 := HAt.out
                  have h3 := HMl.out
                  have h4 := HL.out
                  rw [h1, List.length_append, List.length_singleton]
                  rw [show ((bgs m n l q i).length : Int) + 1 = (((bgs m n l q i).length + 1 : Nat) : Int) by omega]
                  exact wrap_in (by omega) (by omega)
                have G9 := hidb EE.out.2
                generalize ((bgs m n l q i).length : Int) = bI at *
                clear hrow hvx hIv hIw hke HRqi EE
                go_wp2_with fail
                refine HSa.out.mono ?_
                rintro e w15 ⟨rfl, hB15⟩
                have G15 := hidb (Gr.step G9.out hB15.out)
                have e1 := HE1.out
                clear hB15 G9 HSa cV
                go_wp2
                go_roundw
                case rel => exact ⟨i + 1, H1.out, rfl, by go_num, G15⟩
                case measure => have := H1.out; simp [intOf]; omega
end Go.Proofs.YtlhligeicnejbaaDoor
