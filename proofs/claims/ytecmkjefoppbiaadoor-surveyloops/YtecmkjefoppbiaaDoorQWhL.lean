/-
  whole.divided, whole.divisor: the walks.
-/
import Derived.Test.YtecmkjefoppbiaaDoorQJ11
namespace Go.Proofs.YtecmkjefoppbiaaDoor
open Go.RowKit WH

set_option maxHeartbeats 1000000 in
theorem wdiv_lt {w : World} {u v : Value} {m n : Nat} (lm : m < wlid) (ln : n < wlid) (h : m < n) (ha : Pt w u (dn m)) (hb : Pt w v (dn n)) : Calls Tryd.prog 50 #[u, v] w fun e w' => ∃ q r, e = .returned (.tuple #[q, r]) ∧ Pt w' q (dn (m / n)) ∧ Pt w' r (dn (m % n)) ∧ Gr w w' := by
  have HC := hidb (wcmp_any lm ln ha hb)
  rw [cm_lt h] at HC
  have HQ : Hid (m / n = 0 ∧ m % n = m) := ⟨Nat.div_eq_of_lt h, Nat.mod_eq_of_lt h⟩
  have HA := hidb ha
  clear ha hb lm ln h
  go_enter Tryd.func50, Tryd.ntmps50
  go_wp2_with fail
  refine HC.out.mono ?_
  rintro e w1 ⟨rfl, hB⟩
  go_wp2
  go_ret2
  exact ⟨_, _, rfl, by rw [HQ.out.1]; exact .inl ⟨rfl, dn_zero⟩, by rw [HQ.out.2]; exact HA.out.below hB, hB⟩
theorem wr_i64 {n : Nat} (h : n < 9223372036854775808) : IntKind.i64.wrap (n : Int) = (n : Int) := by rw [IntKind.wrap_i64]; omega
theorem bit_of {r : Nat} (h : r ≤ 1) : ((r : Int) != 0) = true ↔ r = 1 := by
  rcases Nat.eq_zero_or_pos r with c | c
  · subst c; decide
  · obtain rfl : r = 1 := by omega
    decide
set_option maxRecDepth 4000 in
set_option maxHeartbeats 16000000 in
theorem wdiv_ge {w : World} {u v : Value} {m n : Nat} (lm : m < wlid) (hn : 0 < n) (hnm : n ≤ m) (ha : Pt w u (dn m)) (hb : Pt w v (dn n)) : Calls Tryd.prog 50 #[u, v] w fun e w' => ∃ q r, e = .returned (.tuple #[q, r]) ∧ Pt w' q (dn (m / n)) ∧ Pt w' r (dn (m % n)) ∧ Gr w w' := by
  have HC := hidb (wcmp_any lm (Nat.lt_of_le_of_lt hnm lm) ha hb)
  have hcm := cm_ge hnm
  generalize cm m n = cx at HC hcm
  obtain ⟨ad, ca, rfl⟩ := ha.form
  obtain ⟨bd, bb, cb, rfl, rb⟩ := hb.rd0
  have la := wlid_len lm
  have lb := dn_len_mono hnm
  obtain ⟨k, hk⟩ : ∃ k, (dn n).length = k + 1 := by
    have : (dn n).length ≠ 0 := fun e => by rw [dn_empty] at e; omega
    exact ⟨(dn n).length - 1, by omega⟩
  obtain ⟨hk', r0, hr0, hr1⟩ := last_dn hk
  obtain ⟨_, htop⟩ := dn_top (n := n) (by omega)
  have htop' : (dn n)[k] ≠ 0 := by
    have e : (dn n).length - 1 = k := by omega
    simp only [e] at htop
    exact htop
  have tl := (dn_dg n).get hk'
  have RB := hidb rb
  have celT : Hid (∀ w', Onl w.heap.size w w' → w'.cell? ⟨bb, k, none⟩ = some (.int .u64 (((dn n)[k] : Nat) : Int))) := fun w' g => rb.cell hk' g
  generalize (dn n)[k] = t at *
  obtain ⟨s, s63, y63, y64, HL⟩ := lead_ex (y := t) (by omega) tl
  obtain ⟨V1, V2⟩ := top_facts s63 hr0 hr1 y63 y64
  have mlt : m < 18446744073709551616 ^ (dn m).length := by have := dv_lt (dn_dg m); rwa [dv_dn] at this
  have DS := hidb (fun (L0 : List Nat) (h1 : Dg L0) (h2 : dv L0 = m * 2 ^ s) => div_start (na := (dn m).length) mlt s63 V1 (by omega) h1 h2)
  have pk := pw_pos k
  have lenV := len_of (V := n * 2 ^ s) (k := k) (by omega) V2
  have HV2 := hidb V2
  have HD1 : Hid (m * 2 ^ s / (n * 2 ^ s) = m / n ∧ m * 2 ^ s % (n * 2 ^ s) / 2 ^ s = m % n) := ⟨div_shift, mod_shift⟩
  obtain ⟨V, hV⟩ : ∃ V, V = n * 2 ^ s := ⟨_, rfl⟩
  rw [← hV] at DS lenV HV2 HD1
  have HVe := hidb hV
  obtain ⟨na, hna⟩ : ∃ na, na = (dn m).length := ⟨_, rfl⟩
  obtain ⟨nb, hnb⟩ : ∃ nb, nb = (dn n).length := ⟨_, rfl⟩
  have hbk : (nb : Int) - 1 = (k : Int) := by omega
  have nbk : nb = k + 1 := by omega
  have HNB := hidb hnb
  have HNA := hidb hna
  have ixT := RB.out.ix k hk'
  rw [← hnb] at ixT
  rw [← hna] at DS
  have HSa := hidb (fun w (h : Pt w (.slice ad (dn m).length ca) (dn m)) => wshift_any (s := s) (dn_dg m) (by omega) s63 h)
  have HSb := hidb (fun w (h : Pt w (.slice bd (dn n).length cb) (dn n)) => wshift_any (s := s) (dn_dg n) (by omega) s63 h)
  have HA := hidb ha
  have HB := hidb hb
  rw [dv_dn, ← hna] at HSa
  rw [dv_dn, ← hnb, ← hV] at HSb
  rw [← hna] at HA la lb
  rw [← hnb] at HB lb
  rw [← hna, ← hnb]
  rw [← hna, ← hnb] at HC
  replace HL := hidb HL
  have HS63 := hidb s63
  have HLV := hidb lenV
  have HNK := hidb nbk
  clear ha hb rb hk hr0 hr1 htop htop' mlt pk V1 V2 y63 y64 hk' hV hna hnb RB lm hn hnm s63 tl lenV nbk
  go_enter Tryd.func50, Tryd.ntmps50
  go_wp2_with fail
  refine HC.out.mono ?_
  rintro e w1 ⟨rfl, hG1⟩
  have celT1 := celT.out w1 ⟨hG1.1, hG1.2, hG1.3, hG1.4, fun k hk _ => hG1.5 k hk⟩
  have HG1 := hidb hG1
  clear hG1 HC celT
  go_wp2_with fail
  refine (HL.out _).mono ?_
  rintro e w1' ⟨rfl, rfl⟩
  clear HL celT1 ixT
  go_wp2_with fail
  refine (HSa.out w1' (HA.out.below HG1.out)).mono ?_
  rintro e w2 ⟨L0, rfl, ll, dL, vL, aL, hG2⟩
  obtain ⟨H1, hH1⟩ : ∃ H, H = w1'.heap.size := ⟨_, rfl⟩
  rw [← hH1] at aL ⊢
  have HG2 := hidb (Gr.step HG1.out hG2)
  have h1ge : w.heap.size ≤ H1 := by rw [hH1]; exact HG1.out.4
  have h1lt := aL.lt
  have HL0 := hidb (And.intro ll (And.intro dL vL))
  have AL := hidb aL
  clear ll dL vL aL hG2 HSa hH1
  go_wp2_with fail
  refine (HSb.out w2 (HB.out.below HG2.out)).mono ?_
  rintro e w3 ⟨B0, rfl, lB, dB, vB, aB, hG3⟩
  obtain ⟨H2, hH2⟩ : ∃ H, H = w2.heap.size := ⟨_, rfl⟩
  rw [← hH2] at aB ⊢
  have HG3 := hidb (Gr.step HG2.out hG3)
  replace AL := hidb (At.below hG3 AL.out)
  have h12 : H1 < H2 := by omega
  have h2lt := aB.lt
  have HT := hidb (wtrim_row w3 H2 B0 (nb + 1) dB aB.urow (by omega) (by unfold maxLen; omega))
  rw [lB, vB, HLV.out, ← HNK.out] at HT
  have HY : Hid (URow w3 H2 (dn V)) := by
    obtain ⟨kk, _, ek⟩ := dn_take dB
    show URow w3 H2 (dn V)
    rw [← vB, ek]
    exact aB.urow.take kk
  clear lB dB vB aB hG3 HSb hH2 HG2 HA HB
  go_wp2_with fail
  refine HT.out.mono ?_
  rintro e w3' ⟨rfl, rfl⟩
  clear HT
  obtain ⟨i0, hi, hz0, hz1, hz2⟩ := info_parts infoU
  obtain ⟨mq, hmq⟩ : ∃ mq, mq = na - k := ⟨_, rfl⟩
  have hmq1 : mq + nb = na + 1 := by have := HNK.out; omega
  rw [← hmq] at DS
  have HMQ := hidb hmq1
  have mqb : mq ≤ 200 := by omega
  clear hmq
  have hwm : IntKind.i64.wrap ((na : Int) + 1 - (nb : Int)) = (mq : Int) := by rw [show (na : Int) + 1 - (nb : Int) = (mq : Int) by omega]; exact wr_i64 (by omega)
  clear hmq1
  go_wp2_with (refine wpList_make_full _ rfl _ _ 63 rfl w.heap.size 105 i0 (.int .u64 0) 1 undU hi hz0 hz1 .i64 .i64 _ _ mq rfl rfl ?e1 ?e2 ?e3 ?e4 HG3.out.4 ?_)
  case e1 => have := HMQ.out; omega
  case e2 => have := HMQ.out; omega
  case e3 => have := HMQ.out; rw [hz2]; omega
  case e4 => have := HMQ.out; unfold maxLen; omega
  intro w4 hown hgrow
  obtain ⟨H3, hH3⟩ : ∃ H, H = w3'.heap.size := ⟨_, rfl⟩
  rw [← hH3] at hown ⊢
  have hG4 : Gr w3' w4 := (Below.refl _ _).grown hgrow (Nat.le_refl _) (by intro k hk; cases hk)
  have HG4 := hidb (Gr.step HG3.out hG4)
  have AQ : Hid (At w4 H3 (us (List.replicate mq 0))) := by
    rw [made_us] at hown
    exact (own_blk hown).at
  replace AL := hidb (At.below hG4 AL.out)
  replace HY := hidb (HY.out.below hG4)
  have h23 : H2 < H3 := by omega
  have DV0 := hidb (DS.out L0 HL0.out.2.1 HL0.out.2.2)
  have HLL := hidb HL0.out.1
  clear hown hgrow hG4 HG3 HL0 DS hwm h1lt h2lt hH3
  have IXQ : Hid (∀ k : Nat, k < mq → ∀ w', (Instr.indexAt 63 (.slice (some ⟨H3, 0, none⟩) mq mq) (.int .i64 k)).run Tryd.prog w' = .ok (.pointer (some ⟨H3, k, none⟩)) w') := fun k hk w' => uindex0 _ _ _ k hk w'
  have SLP : Hid (∀ j : Nat, j < mq → ∀ w', (Instr.slice 63 (.slice (some ⟨H1, 0, none⟩) (na + 1) (na + 1)) (some (.int .i64 (j : Int))) (some (.int .i64 ((j : Int) + (nb : Int) + 1))) none).run Tryd.prog w' = .ok (.slice (some ⟨H1, j, none⟩) (nb + 1) (na + 1 - j)) w') := fun j hj w' => by
    have := HMQ.out
    have e := uslice H1 (na + 1) j (j + nb + 1) (by omega) (by omega) (by omega) w'
    rw [show j + nb + 1 - j = nb + 1 by omega, show ((j + nb + 1 : Nat) : Int) = (j : Int) + (nb : Int) + 1 by omega] at e
    exact e
  obtain ⟨lv, hlv⟩ : ∃ lv, lv = Value.slice (some ⟨H1, 0, none⟩) (na + 1) (na + 1) := ⟨_, rfl⟩
  obtain ⟨yd, hyd⟩ : ∃ yd, yd = (some ⟨H2, 0, none⟩ : Option Addr) := ⟨_, rfl⟩
  have IXY : Hid (∀ k : Nat, k < nb → ∀ w', (Instr.indexAt 63 (.slice yd nb (nb + 1)) (.int .i64 k)).run Tryd.prog w' = .ok (.pointer (some ⟨H2, k, none⟩)) w') := fun k hk w' => by rw [hyd]; exact uindex0 _ _ _ k hk w'
  rw [← hlv] at SLP ⊢
  rw [← hyd]
  have HLvE := hidb hlv
  clear hlv hyd
  go_wp2
  obtain ⟨qv, hqv⟩ : ∃ qv, qv = Value.slice (some ⟨H3, 0, none⟩) mq mq := ⟨_, rfl⟩
  rw [← hqv] at IXQ ⊢
  have HQvE := hidb hqv
  clear hqv
  go_loopw [11] (fun t' wr => ∃ (k' : Nat) (L q : List Nat), k' ≤ mq ∧ t' = .int .i64 ((k' : Int) - 1) ∧ Hid (DivI (m * 2 ^ s) V L q k') ∧ Hid (L.length = na + 1 ∧ q.length = mq) ∧ Hid (At wr H1 (us L)) ∧ Hid (At wr H3 (us q)) ∧ Hid (URow wr H2 (dn V)) ∧ Hid (Gr w wr)) (fun t' _ => (intOf t' + 1).toNat)
  case atStart => exact ⟨mq, L0, List.replicate mq 0, Nat.le_refl _, rfl, by rw [HVe.out]; rw [HVe.out] at DV0; exact DV0.out, ⟨HLL.out, by simp⟩, AL.out, AQ.out, HY.out, HG4.out⟩
  case round =>
    clear AL AQ HY HG4 HLL DV0
    obtain ⟨k', L, q, hkm, rfl, HD, HLn, AL, AQ, HY, HG⟩ := hrel
    rcases Nat.eq_zero_or_pos k' with h0 | h0
    · subst h0
      have HE := hidb HD.out.done
      have HPq : Hid (Pt wr qv q) := .inr ⟨H3, mq, by rw [HLn.out.2]; exact HQvE.out, by rw [HLn.out.2]; exact Nat.le_refl _, by have := HMQ.out; unfold maxLen; omega, AQ.out.urow⟩
      have HPl : Hid (Pt wr lv L) := .inr ⟨H1, na + 1, by rw [HLn.out.1]; exact HLvE.out, by rw [HLn.out.1]; exact Nat.le_refl _, by unfold maxLen; omega, AL.out.urow⟩
      go_wp2_with fail
      refine (wtrim_any HD.out.dq HPq.out).mono ?_
      rintro e w5 ⟨r1, rfl, hr1, rfl⟩
      have HR1 := hidb hr1
      clear hr1
      go_wp2_with fail
      refine (wlower_any HD.out.dl (by rw [HLn.out.1]; omega) HS63.out HPl.out).mono ?_
      rintro e w6 ⟨r2, rfl, hr2, hG6⟩
      go_wp2
      go_ret2
      refine ⟨_, _, rfl, ?_, ?_, Gr.step HG.out hG6⟩
      · rw [← HD1.out.1, ← HE.out.1]; exact HR1.out.below hG6
      · rw [← HD1.out.2, ← HE.out.2]; exact hr2
    · obtain ⟨j, rfl⟩ : ∃ j, k' = j + 1 := ⟨k' - 1, by omega⟩
      have ej : ((j + 1 : Nat) : Int) - 1 = (j : Int) := by omega
      rw [ej]
      have hj0 : (0 : Int) ≤ (j : Int) := by omega
      have hjm : j < mq := by omega
      have slp := SLP.out j hjm
      obtain ⟨pc, hpc⟩ : ∃ pc, pc = na + 1 - j := ⟨_, rfl⟩
      rw [← hpc] at slp
      clear hpc
      obtain ⟨pd, hpd⟩ : ∃ pd, pd = (some ⟨H1, j, none⟩ : Option Addr) := ⟨_, rfl⟩
      have IXP : Hid (∀ i : Nat, i < nb + 1 → ∀ w', (Instr.indexAt 63 (.slice pd (nb + 1) pc) (.int .i64 i)).run Tryd.prog w' = .ok (.pointer (some ⟨H1, j + i, none⟩)) w') := fun i hi w' => by rw [hpd]; exact uindex H1 j (nb + 1) pc i hi w'
      rw [← hpd] at slp
      clear hpd
      have hLl : j + (nb + 1) ≤ L.length := by rw [HLn.out.1]; have := HMQ.out; omega
      have hyl : k < (dn V).length := by rw [HLV.out]; omega
      have hnk := HNK.out
      have l1 : j + (k + 1) < L.length := by omega
      have l2 : j + k < L.length := by omega
      obtain ⟨cl1, _⟩ := AL.out.ucell l1
      obtain ⟨cl2, _⟩ := AL.out.ucell l2
      have cly := HY.out.1 k hyl
      have ixp1 := IXP.out nb (by omega)
      have ixp2 := IXP.out k (by omega)
      have ixy := IXY.out k (by omega)
      rw [show j + nb = j + (k + 1) by omega] at ixp1
      have hil := HD.out.dl.get l1
      have lol := HD.out.dl.get l2
      have vtl := (dn_dg V).get hyl
      obtain ⟨g, hg⟩ : ∃ g, g = if (dn V)[k] ≤ L[j + (k + 1)] then 18446744073709551615 else (L[j + (k + 1)] * 18446744073709551616 + L[j + k]) / (dn V)[k] := ⟨_, rfl⟩
      have gl : g < 18446744073709551616 := by
        rw [hg]
        split
        · decide
        · rename_i c
          have hv0 : 0 < (dn V)[k] := by omega
          refine (Nat.div_lt_iff_lt_mul hv0).2 ?_
          have := Nat.mul_le_mul_right 18446744073709551616 (show L[j + (k + 1)] + 1 ≤ (dn V)[k] by omega)
          rw [Nat.mul_comm 18446744073709551616]
          omega
      have HGU := hidb (fun w => guessQ_any L[j + (k + 1)] L[j + k] (dn V)[k] g lol vtl hg w)
      have HGD := hidb (guess_dig HD.out (by omega) HLV.out (List.getElem?_eq_getElem l1) (List.getElem?_eq_getElem l2) (List.getElem?_eq_getElem hyl) hg)
      generalize L[j + (k + 1)] = dhi at *
      generalize L[j + k] = dlo at *
      generalize (dn V)[k] = vt at *
      have HRD : Hid (∀ W, URow W H2 (dn V) → Rd W H1 yd H2 (nb + 1) (dn V)) := fun W h => ⟨.inl ⟨h, by omega⟩, fun i hi w' => by have e := IXY.out i (by rw [HLV.out] at hi; omega) w'; rw [HLV.out, ← HNK.out]; exact e⟩
      have HSUB := hidb (fun W (h1 : At W H1 (us L)) (h2 : URow W H2 (dn V)) => wsub_gen pd yd H1 j (nb + 1) pc H2 (nb + 1) g L (dn V) W h1 HD.out.dl (dn_dg V) hLl (by omega) (by rw [HLV.out]; omega) gl (HRD.out W h2) IXP.out)
      have HADD := hidb (fun W (M : List Nat) (h1 : At W H1 (us M)) (h0 : Dg M) (hl : M.length = L.length) (h2 : URow W H2 (dn V)) => wadd_gen pd yd H1 j (nb + 1) pc H2 (nb + 1) M (dn V) W h1 h0 (dn_dg V) (by rw [hl]; exact hLl) (by omega) (by rw [HLV.out]; omega) (HRD.out W h2) IXP.out)
      rw [HLV.out, ← HNK.out] at HSUB HADD
      have hLH := hidb hLl
      clear hg hnk l1 l2 hil lol vtl hyl hLl
      go_upto_region 11 with fail
      go_quiet ((go_at_call 61; exact Calls.quiet_of (HGU.out _)))
      go_wp2_with fail
      refine (HSUB.out _ (AL.out.drewN _) (HY.out)).mono ?_
      rintro e w5 ⟨M, c, r, rfl, hr, hA5, hI, hO⟩
      have hc0 : c = 0 := hI.past (by rw [HLV.out, ← HNK.out]; omega)
      rw [hc0] at hI
      have DI := hidb (DigI.first (by' := dn V) HD.out hLH.out (by rw [HNK.out]; exact HV2.out) (by rw [List.take_of_length_le (by rw [HLV.out, ← HNK.out]; omega), dv_dn]) hI hr (by rw [HNK.out]; exact HGD.out))
      have A5 := hidb hA5
      have HO := hidb (Onl.trans (Onl.drewN (Onl.refl H1 wr) _) hO)
      clear hA5 hI hO hc0 HSUB HGU HGD
      go_wp2
      go_loopw [13, 14] (fun s' t' wr2 => ∃ (g b : Nat) (tb : Bool) (M : List Nat), g < 18446744073709551616 ∧ s' = .int .u64 (g : Int) ∧ t' = .bool tb ∧ Hid (tb = true ↔ b = 1) ∧ Hid (DigI L M V nb j g b) ∧ Hid (At wr2 H1 (us M)) ∧ Hid (Onl H1 wr wr2)) (fun s' _ _ => (intOf s').toNat)
      case atStart => exact ⟨g, r, _, M, gl, rfl, rfl, bit_of hr, DI.out, A5.out, HO.out⟩
      case round =>
        clear DI A5 HO gl
        obtain ⟨g, b, tb, M, gl, rfl, rfl, HT, DI, A5, HO⟩ := hrel
        have HLT : Hid (dv L < 18446744073709551616 ^ (j + (nb + 1))) := by
          refine Nat.lt_of_lt_of_le HD.out.less ?_
          have := Nat.mul_le_mul_right (18446744073709551616 ^ (j + 1)) (Nat.le_of_lt HV2.out)
          rw [← Nat.pow_add, ← HNK.out, show nb + (j + 1) = j + (nb + 1) by omega] at this
          exact this
        cases tb with
        | false =>
          have hb0 : b = 0 := by
            have h1 := DI.out.bit
            rcases Nat.eq_zero_or_pos b with c | c
            · exact c
            · have := HT.out.2 (by omega); cases this
          rw [hb0] at DI
          have hjq : j < q.length := by rw [HLn.out.2]; exact hjm
          have HN := hidb (DivI.next HD.out DI.out gl hjq)
          have AQ2 := hidb (AQ.out.onl HO.out (by omega))
          obtain ⟨cq, fq⟩ := AQ2.out.ucell hjq
          have ixq := IXQ.out j hjm
          have HLn2 : Hid (M.length = na + 1 ∧ (q.set j g).length = mq) := ⟨by rw [DI.out.like.len]; exact HLn.out.1, by simpa using HLn.out.2⟩
          have HY2 := hidb (HY.out.onl HO.out (by omega))
          have HG2 := hidb (show Gr w wr from Onl.of HG.out HO.out h1ge)
          generalize q[j] = qz at *
          clear HT hb0 hjq
          go_wp2
          go_roundw
          case rel => exact ⟨j, M, q.set j g, by omega, by go_num, HN.out, HLn2.out, A5.out.skip (by omega) _ _, AQ2.out.uput j g, HY2.out.onl ((Onl.refl H3 _).set j _) (by omega), Gr.set HG2.out (by omega) _ _⟩
          case measure => simp [intOf]
        | true =>
          have hb1 : b = 1 := HT.out.1 rfl
          rw [hb1] at DI
          have hg0 := DI.out.great (.inl (alike_high DI.out.dg DI.out.like hLH.out HLT.out))
          obtain ⟨g', hgg⟩ : ∃ g', g = g' + 1 := ⟨g - 1, by omega⟩
          rw [hgg] at DI
          have hw : IntKind.u64.wrap ((g : Int) - 1) = (g' : Int) := by rw [IntKind.wrap_u64]; omega
          have gl' : g' < 18446744073709551616 := by omega
          have HGG := hidb hgg
          have HY2 := hidb (HY.out.onl HO.out (by omega))
          clear hgg hb1 HT hg0
          go_wp2_with fail
          refine (HADD.out _ M A5.out DI.out.dg DI.out.like.len HY2.out).mono ?_
          rintro e w6 ⟨M', c', rfl, hc', hA6, hI, hO6⟩
          have DI2 := hidb (DigI.back (by' := dn V) DI.out (by rw [List.take_of_length_le (by rw [HLV.out, ← HNK.out]; omega), dv_dn]) hI hc' HLT.out hLH.out)
          have A6 := hidb hA6
          have HO6 := hidb (Onl.trans HO.out hO6)
          have HC6 : Hid (((c' : Int) == 0) = true ↔ 1 - c' = 1) := by
            rcases Nat.eq_zero_or_pos c' with h | h
            · subst h; show _ ↔ _; decide
            · obtain rfl : c' = 1 := by omega
              show _ ↔ _; decide
          generalize hq : (((c' : Int)) == 0) = tq at HC6
          clear hA6 hI hO6 HO A5 DI HLT
          go_wp2
          go_roundw
          case rel => exact ⟨g', 1 - c', tq, M', gl', by go_num, rfl, HC6.out, DI2.out, A6.out, HO6.out⟩
          case measure => have := HGG.out; simp [intOf]; omega
end Go.Proofs.YtecmkjefoppbiaaDoor
