/-
  mercatorref5.RoundsOf.
-/
import Derived.Test.YtnadgoomkaldkaaDoorQSfY
namespace Go.Proofs.YtnadgoomkaldkaaDoor
open Go.RowKit
attribute [local go_sem ↓] Go.wp_at_zero Go.wp_at_succ

/-- Where the reference marks a way. -/
def gxN (n q : Nat) : Nat := if q % 2 = 0 then q / 2 + 1 + n else n - 1 - q / 2
theorem gxN_td {n q : Nat} (h : q < 2 * n) : tdI q + (n : Int) = (gxN n q : Int) := by unfold tdI gxN; split <;> omega
theorem gxN_lt {n q : Nat} (h : q < 2 * n) : gxN n q < 2 * n + 1 := by unfold gxN; split <;> omega
theorem gxN_inj {n p q : Nat} (hp : p < 2 * n) (hq : q < 2 * n) (h : gxN n p = gxN n q) : p = q := by unfold gxN at h; split at h <;> split at h <;> omega
/-- What the reference has marked is what is seen. -/
structure GnR (n : Nat) (t s : List Bool) : Prop where
  l : t.length = 2 * n + 1
  a : ∀ q, q < 2 * n → glb t (gxN n q) = s.getD q true
theorem GnR.start (n : Nat) : GnR n (List.replicate (2 * n + 1) false) (List.replicate (2 * n) false) :=
  ⟨by simp, fun q hq => by have := gxN_lt hq; unfold glb; simp [List.getD_eq_getElem?_getD, hq, this]⟩
theorem GnR.set {n : Nat} {t s : List Bool} {q : Nat} (h : GnR n t s) (hs : s.length = 2 * n) (hq : q < 2 * n) : GnR n (t.set (gxN n q) true) (s.set q true) := by
  refine ⟨by rw [List.length_set]; exact h.l, fun p hp => ?_⟩
  have hl := gxN_lt hq
  by_cases e : p = q
  · subst e
    have h1 : gxN n p < t.length := by rw [h.l]; exact hl
    unfold glb
    simp [List.getD_eq_getElem?_getD, h1, hs, hp]
  · have h1 : gxN n q ≠ gxN n p := fun k => e (gxN_inj hq hp k).symm
    have := h.a p hp
    unfold glb at *
    simp only [List.getD_eq_getElem?_getD, List.getElem?_set_ne h1, List.getElem?_set_ne (Ne.symm e)] at *
    exact this
theorem tdI_k0 (k : Nat) : tdI (2 * k + 0) = (k : Int) + 1 := by
  have e2 : (2 * k + 0) / 2 = k := by omega
  unfold tdI; rw [if_pos (by omega), e2]
theorem tdI_k1 (k : Nat) : tdI (2 * k + 1) = -((k : Int) + 1) := by
  have e2 : (2 * k + 1) / 2 = k := by omega
  unfold tdI; rw [if_neg (by omega), e2]
set_option maxRecDepth 4000 in
set_option maxHeartbeats 16000000 in
theorem roundsOf_any {pb po : Nat} {ad : Option Addr} {b o cap : Nat} {Ls : List (List Sp)} (hM : OkM Ls) (hok : okL Ls) (w : World) (hp : w.cell? ⟨pb, po, none⟩ = some (.slice ad Ls.length cap) ∧ pb < w.heap.size) (h : LLs w ad b o cap Ls) (hN : Ls.length ≤ 5000) (ll : ∀ i, i < Ls.length → (lx Ls i).length ≤ 5000) : Calls Tryd.prog 14 #[.pointer (some ⟨pb, po, none⟩)] w fun e w' => ∃ base v vs, e = .returned v ∧ RQ w' base v vs (tdLL (roP Ls)) ∧ Gr w w' := by
  have HNx := hidb (fun u (hu : u < 2 * Ls.length) W (hG : Gr w W) => nextOf_any (u := u) hM hok W ⟨(hG.out.cell (p := ⟨pb, po, none⟩) hp.2).trans hp.1, Nat.lt_of_lt_of_le hp.2 hG.out.size⟩ (h.below hG.out) hu hN ll)
  have cP := hp.1
  have HSt : Hid (∀ s0 q ws s way, MdR Ls s0 q ws s way → s.getD way true = false → MdR Ls s0 q (ws ++ [way]) (s.set way true) (nxP Ls way)) := fun s0 q ws s way hm hn => hm.step hM hn
  have HRo := hidb (roF_all hM)
  have HRl := hidb (fun q => roF_len (Ls := Ls) q)
  have HR0 := hidb (show roF Ls 0 = ([], List.replicate (2 * Ls.length) false) from rfl)
  have HRs := hidb (show ∀ q, (roF Ls (q + 1)).2 = (remR Ls (roF Ls q).2 q).2 from fun _ => rfl)
  have HRp := hidb (show roP Ls = (roF Ls (2 * Ls.length)).1 from rfl)
  have HMl := hidb (fun (s0 : List Bool) q ws s way (hm : MdR Ls s0 q ws s way) (hl : s0.length = 2 * Ls.length) => And.intro (hm.len hl) (hm.len2 hl))
  have HMt := hidb (fun s0 q ws s way (hm : MdR Ls s0 q ws s way) => And.intro hm.lt hm.l)
  have HMs := hidb (fun (s0 : List Bool) (q : Nat) (hl : s0.length = 2 * Ls.length) (hq : q < 2 * Ls.length) => MdR.start hl hq)
  obtain ⟨CS, hCS, mk⟩ := made_runB (2 * Ls.length + 1) (by omega)
  obtain ⟨N, hNn⟩ : ∃ N, N = Ls.length := ⟨_, rfl⟩
  rw [← hNn] at HNx HRo HRl HR0 HRp HMl HMt HMs hCS mk cP hN
  have HKb := hidb hN
  obtain ⟨K, hK⟩ : ∃ K, K = 2 * N + 1 := ⟨_, rfl⟩
  rw [← hK] at hCS mk
  have HK := hidb hK
  have eN : IntKind.i64.wrap (2 * (N : Int)) = 2 * (N : Int) := wr_in (by omega) (by omega)
  have eN2 : IntKind.i64.wrap (2 * (N : Int) + 1) = (K : Int) := by rw [show 2 * (N : Int) + 1 = (K : Int) by omega]; exact wr_in (by omega) (by omega)
  have E0 : Hid (∃ t, RS w (w.alloc (.cells CS 4)) w.heap.size (w.heap.size + 1) t (.slice none 0 0) [] (tdLL (roF Ls 0).1) (.slice none 0 0) [] ∧ GnR N t (roF Ls 0).2) := by
    rw [HR0.out]
    exact ⟨List.replicate K false, ⟨by rw [← hCS]; exact At.newArr _ _ _, RQ.nil _ _, World.ownsRow_nil _ _ _ _, fun g e => by simp [Value.ownBlock] at e, fun j _ hj => by simp at hj, (Gr.refl w).alloc _, ⟨Nat.le_refl _, Nat.lt_succ_self _⟩, by simp⟩, by rw [hK]; exact GnR.start N⟩
  clear h hN ll hM hok hNn hCS hK hp
  go_enter Tryd.func14, Tryd.ntmps14
  go_wp2
  generalize w.alloc (.cells CS 4) = W1 at *
  obtain ⟨base, hbase⟩ : ∃ z, z = w.heap.size + 1 := ⟨_, rfl⟩
  rw [← hbase] at E0
  generalize w.heap.size = SB at *
  clear hbase mk cP
  go_loopw [5, 6] (fun v t wr => ∃ (k : Nat) (vs : List Value), k ≤ N ∧ t = .int .i64 ((k : Int) + 1) ∧ Hid (∃ t, RS w wr SB base t v vs (tdLL (roF Ls (2 * k)).1) (.slice none 0 0) [] ∧ GnR N t (roF Ls (2 * k)).2)) (fun _ t _ => N + 1 - (intOf t).toNat)
  case atStart => exact ⟨0, [], Nat.zero_le _, rfl, E0⟩
  case round =>
    clear E0
    obtain ⟨k, vs, hk, rfl, E⟩ := hrel
    obtain ⟨t0, E1, -⟩ := E.out
    obtain ⟨adv, capv, rfl⟩ := own_sh E1.q.o
    have HG := hidb E1.g
    have HQ := hidb E1.q
    clear E1 t0
    by_cases h1 : ¬ k < N
    · have h1' : ¬ (k : Int) + 1 ≤ (N : Int) := by omega
      have HZ := hidb (show roP Ls = (roF Ls (2 * k)).1 by rw [HRp.out, show N = k by omega])
      clear h1
      go_wp2
      go_ret
      exact ⟨base, _, rfl, ⟨vs, by rw [HZ.out]; exact HQ.out⟩, HG.out⟩
    · have h1' : (k : Int) + 1 ≤ (N : Int) := by omega
      have H1 := hidb (show k < N by omega)
      have e1 : IntKind.i64.wrap ((k : Int) + 1 + 1) = ((k + 1 : Nat) : Int) + 1 := by rw [show (k : Int) + 1 + 1 = ((k + 1 : Nat) : Int) + 1 by omega]; exact wr_in (by omega) (by have := HKb.out; omega)
      generalize hvl : vs.length = vl at *
      clear h1 HG HQ hvl
      go_wp2
      go_loopw [5, 7] (fun v t wx => ∃ (j : Nat) (vs : List Value), j ≤ 2 ∧ t = .int .i64 (1 - 2 * (j : Int)) ∧ Hid (∃ t, RS w wx SB base t v vs (tdLL (roF Ls (2 * k + j)).1) (.slice none 0 0) [] ∧ GnR N t (roF Ls (2 * k + j)).2)) (fun _ t _ => (intOf t + 4).toNat)
      case atStart => exact ⟨0, vs, Nat.zero_le _, rfl, E⟩
      case round =>
        clear E
        obtain ⟨j, vs, hj, rfl, E⟩ := hrel
        obtain ⟨t0, E1, -⟩ := E.out
        obtain ⟨adv, capv, rfl⟩ := own_sh E1.q.o
        have HVl := hidb E1.q.n
        clear E1 t0
        generalize hvl : vs.length = vl at *
        by_cases h2 : ¬ j < 2
        · obtain rfl : j = 2 := by omega
          clear h2
          go_wp2
          go_roundw
          case rel => exact ⟨k + 1, vs, H1.out, by go_num, E⟩
          case measure => have := H1.out; simp [intOf]; omega
        · have h2' : -1 ≤ 1 - 2 * (j : Int) := by omega
          have HJ := hidb (show j < 2 by omega)
          have e2 : IntKind.i64.wrap (1 - 2 * (j : Int) - 2) = 1 - 2 * ((j + 1 : Nat) : Int) := by rw [show 1 - 2 * (j : Int) - 2 = 1 - 2 * ((j + 1 : Nat) : Int) by omega]; exact wr_in (by omega) (by omega)
          have hq : 2 * k + j < 2 * N := by have := H1.out; omega
          have e3 : IntKind.i64.wrap (((k : Int) + 1) * (1 - 2 * (j : Int))) = tdI (2 * k + j) := by
            have hb := tdI_bd (a := 2 * k + j) (by have := HKb.out; omega)
            have e : ((k : Int) + 1) * (1 - 2 * (j : Int)) = tdI (2 * k + j) := by
              rcases (show j = 0 ∨ j = 1 by omega) with rfl | rfl
              · rw [tdI_k0]; simp
              · rw [tdI_k1]; simp
            rw [e]; exact wr_in (by omega) (by omega)
          have HQ := hidb hq
          have HS1 := hidb (show (roF Ls (2 * k + (j + 1))).2 = _ from HRs.out (2 * k + j))
          have HF1 := hidb (show _ → (roF Ls (2 * k + (j + 1))).1 = _ from fun h => roF_no (Ls := Ls) (q := 2 * k + j) h)
          have HF2 := hidb (show _ → (roF Ls (2 * k + (j + 1))).1 = _ from fun h => roF_yes (Ls := Ls) (q := 2 * k + j) h)
          have HL0 := hidb (HRl.out (2 * k + j))
          have HOl := hidb (HRo.out (2 * k + j) (Nat.le_of_lt hq)).2.2
          generalize (roF Ls (2 * k + j)).2 = s0 at *
          generalize (roF Ls (2 * k + j)).1 = L0 at *
          generalize 2 * k + j = q at *
          have F0 := hidb (HMs.out s0 q HL0.out hq)
          clear h2 hq
          go_wp2
          go_loopw [8, 9] (fun r t wx => ∃ (ws : List Nat) (way : Nat) (s tl : List Bool), t = .int .i64 (tdI way) ∧ Hid (RS w wx SB base tl (.slice adv vl capv) vs (tdLL L0) r (tdL ws) ∧ MdR Ls s0 q ws s way ∧ GnR N tl s)) (fun r _ _ => 2 * N + 1 - lnV r)
          case atStart =>
            obtain ⟨t0, E1, E2⟩ := E.out
            exact ⟨[], q, s0, t0, rfl, hidb ⟨E1, F0.out, E2⟩⟩
          case round =>
            clear E F0
            obtain ⟨ws, way, s, tl, rfl, E⟩ := hrel
            obtain ⟨adr, capr, rfl⟩ := own_sh E.out.1.r
            have HB := hidb (HMl.out _ _ _ _ _ E.out.2.1 HL0.out)
            have HT := hidb (HMt.out _ _ _ _ _ E.out.2.1)
            have hgl : gxN N way < K := by rw [HK.out]; exact gxN_lt HT.out.1
            have e4 : IntKind.i64.wrap (tdI way + (N : Int)) = (gxN N way : Int) := by rw [gxN_td HT.out.1]; exact wr_in (by omega) (by have := HKb.out; have := HK.out; omega)
            have hbi := bindex SB K K (gxN N way) hgl
            obtain ⟨cs, fs⟩ := E.out.1.sb.getb (j := gxN N way) (by rw [E.out.2.2.l, ← HK.out]; exact hgl)
            have HGs := hidb (E.out.2.2.a way HT.out.1)
            obtain ⟨n, hn⟩ : ∃ n, n = ws.length := ⟨_, rfl⟩
            have HRn := hidb (show (tdL ws).length = n by simp [hn])
            have HNb := hidb (show n ≤ 2 * N ∧ (s.getD way true = false → n < 2 * N) by rw [hn]; exact HB.out)
            have HNe := hidb (show n = 0 ↔ ws = [] by rw [hn]; exact List.length_eq_zero_iff)
            rw [HRn.out] at E ⊢
            have HGs2 := hidb (fun (hl : s.length = 2 * N) => E.out.2.2.set hl HT.out.1)
            generalize gxN N way = gx at *
            obtain ⟨Tw, hTw⟩ : ∃ z, z = tdI way := ⟨_, rfl⟩
            have HTw := hidb hTw
            rw [← hTw] at e4 ⊢
            clear hn hTw
            by_cases h2 : s.getD way true = true
            · rw [HGs.out, h2] at cs
              have HF := hidb (E.out.2.1.fin h2)
              clear h2
              by_cases h3 : n = 0
              · have HZ := hidb (HF1.out (by rw [HF.out.1]; exact HNe.out.1 h3))
                subst h3
                have HR2 := hidb (show ∃ t, RS w wr SB base t (.slice adv vl capv) vs (tdLL L0) (.slice none 0 0) [] ∧ GnR N t s from ⟨tl, E.out.1.fresh, E.out.2.2⟩)
                clear E
                go_wp2
                go_roundw
                case rel => exact ⟨j + 1, vs, HJ.out, by go_num, hidb (by rw [HS1.out, HF.out.2, HZ.out]; exact HR2.out)⟩
                case measure => have := HJ.out; simp [intOf]; omega
              · have h3' : (0 : Int) < (n : Int) := by omega
                have HZ := hidb (show (roF Ls (2 * k + (j + 1))).1 = L0 ++ [ws] from (HF2.out (by rw [HF.out.1]; exact fun e => h3 (HNe.out.2 e))).trans (by rw [HF.out.1]))
                clear h3
                have HVb := hidb (show vl ≤ 20000 by have := HVl.out; have := HOl.out; have := HKb.out; have := HQ.out; simp at *; omega)
                have HVe := hidb hvl
                clear hvl
                go_wp2_with (at_builtin; refine wpList_sx _ base (.slice adv vl capv) vs (.slice adr n capr) vl _ _ _ rfl rfl rfl rfl HVe.out HVb.out rfl (by have := E.out.1.q.o.alloc (.cells #[.slice adr n capr] 37); rw [HVe.out] at this; exact this) (At.new1 _ _ _) (by have := E.out.1.b.2; simp; omega) ?_; intro g2 cap2 w2 hr2 hg2 hat2)
                have F2 := hidb (show ∃ t, RS _ _ _ _ t _ _ _ _ _ ∧ GnR N t s from ⟨tl, (E.out.1.below ((Below.refl _ _).alloc (Nat.le_refl _) (.cells #[.slice adr n capr] 37))).push HVe.out hr2.out hg2.out hat2.out, E.out.2.2⟩)
                clear hr2 hg2 hat2
                go_roundw
                case rel => exact ⟨j + 1, _, HJ.out, by go_num, hidb (by rw [HS1.out, HF.out.2, HZ.out, show tdLL (L0 ++ [ws]) = tdLL L0 ++ [tdL ws] by simp]; exact F2.out)⟩
                case measure => have := HJ.out; simp [intOf]; omega
            · rw [HGs.out, show s.getD way true = false by simpa using h2] at cs
              have HS := hidb (HSt.out _ _ _ _ _ E.out.2.1 (by simpa using h2))
              have HB2 := hidb (HNb.out.2 (by simpa using h2))
              clear h2
              go_upto_region 14 with fail
              have F1 := hidb (And.intro (E.out.1.set gx) (HGs2.out HT.out.2))
              generalize wr.setCell ⟨SB, gx, none⟩ (.bool true) = w2 at *
              clear E cs fs hbi
              go_upto_region 15 with (at_builtin; refine wpList_ii _ base (.slice adr n capr) (tdL ws) Tw n _ _ _ rfl rfl rfl rfl HRn.out (by have := HB2.out; have := HKb.out; omega) (by have := F1.out.1.r.alloc (.cells #[.int .i64 Tw] 3); rw [HRn.out] at this; exact this) (At.new1 _ _ _) (by have := F1.out.1.b.2; simp; omega) ?_; intro g2 cap2 w4 hr2 hg2 hat2)
              have F2 := hidb ((F1.out.1.below ((Below.refl _ _).alloc (Nat.le_refl _) (.cells #[.int .i64 Tw] 3))).app HRn.out hr2.out hg2.out hat2.out)
              have F1b := hidb F1.out.2
              have HNw := hidb (HNx.out way HT.out.1)
              rw [← HTw.out] at HNw
              clear hr2 hg2 hat2 F1
              go_wp2_with (go_at_call 30; refine (HNw.out _ F2.out.g).mono ?_; rintro e w5 ⟨rfl, hB5⟩)
              have F3 := hidb (F2.out.below hB5.out)
              clear F2 hB5
              go_roundw
              case rel => exact ⟨ws ++ [way], nxP Ls way, s.set way true, tl.set gx true, rfl, hidb ⟨by rw [show tdL (ws ++ [way]) = tdL ws ++ [Tw] by simp [HTw.out]]; exact F3.out, HS.out, F1b.out⟩⟩
              case measure => have := HB2.out; simp [lnV]; omega
end Go.Proofs.YtnadgoomkaldkaaDoor
