/-
  shape.net.rounds.
-/
import Derived.Test.YtnadgoomkaldkaaDoorQSfX
namespace Go.Proofs.YtnadgoomkaldkaaDoor
open Go.RowKit
attribute [local go_sem ↓] Go.wp_at_zero Go.wp_at_succ

abbrev tdL (ws : List Nat) : List Int := ws.map tdI
abbrev tdLL (L : List (List Nat)) : List (List Int) := L.map tdL
def lnV : Value → Nat
  | .slice _ n _ => n
  | _ => 0
/-- In the midst of a round. -/
structure MdR (Ls : List (List Sp)) (s0 : List Bool) (q : Nat) (ws : List Nat) (s : List Bool) (way : Nat) : Prop where
  l : s.length = 2 * Ls.length
  lt : way < 2 * Ls.length
  a : ws ++ (remR Ls s way).1 = (remR Ls s0 q).1
  b : (remR Ls s way).2 = (remR Ls s0 q).2
  c : ws.length + frR s = frR s0
theorem MdR.start {Ls : List (List Sp)} {s0 : List Bool} {q : Nat} (hl : s0.length = 2 * Ls.length) (hq : q < 2 * Ls.length) : MdR Ls s0 q [] s0 q := ⟨hl, hq, rfl, rfl, by simp⟩
theorem MdR.step {Ls : List (List Sp)} (hM : OkM Ls) {s0 : List Bool} {q : Nat} {ws : List Nat} {s : List Bool} {way : Nat} (h : MdR Ls s0 q ws s way) (hn : s.getD way true = false) : MdR Ls s0 q (ws ++ [way]) (s.set way true) (nxP Ls way) := by
  have hs := rem_step (Ls := Ls) hn
  refine ⟨by rw [List.length_set]; exact h.l, hM.lt h.lt, ?_, ?_, ?_⟩
  · rw [← h.a, hs]; simp
  · rw [← h.b, hs]
  · have := frR_set hn
    have := h.c
    simp only [List.length_append, List.length_singleton]
    omega
theorem MdR.fin {Ls : List (List Sp)} {s0 : List Bool} {q : Nat} {ws : List Nat} {s : List Bool} {way : Nat} (h : MdR Ls s0 q ws s way) (hn : s.getD way true = true) : (remR Ls s0 q).1 = ws ∧ (remR Ls s0 q).2 = s := by
  have ha := h.a
  have hb := h.b
  rw [rem_seen hn] at ha hb
  exact ⟨by rw [← ha]; simp, hb.symm⟩
theorem MdR.len {Ls : List (List Sp)} {s0 : List Bool} {q : Nat} {ws : List Nat} {s : List Bool} {way : Nat} (h : MdR Ls s0 q ws s way) (hl : s0.length = 2 * Ls.length) : ws.length ≤ 2 * Ls.length := by
  have h1 := h.c
  have h2 := frR_le s0
  omega
theorem MdR.len2 {Ls : List (List Sp)} {s0 : List Bool} {q : Nat} {ws : List Nat} {s : List Bool} {way : Nat} (h : MdR Ls s0 q ws s way) (hl : s0.length = 2 * Ls.length) (hn : s.getD way true = false) : ws.length < 2 * Ls.length := by
  have h1 := h.c
  have h2 := frR_le s0
  have h3 := frR_set hn
  omega
theorem roF_no {Ls : List (List Sp)} {q : Nat} (h : (remR Ls (roF Ls q).2 q).1 = []) : (roF Ls (q + 1)).1 = (roF Ls q).1 := by
  show (if (remR Ls (roF Ls q).2 q).1 = [] then (roF Ls q).1 else (roF Ls q).1 ++ [(remR Ls (roF Ls q).2 q).1]) = _
  exact if_pos h
theorem roF_yes {Ls : List (List Sp)} {q : Nat} (h : (remR Ls (roF Ls q).2 q).1 ≠ []) : (roF Ls (q + 1)).1 = (roF Ls q).1 ++ [(remR Ls (roF Ls q).2 q).1] := by
  show (if (remR Ls (roF Ls q).2 q).1 = [] then (roF Ls q).1 else (roF Ls q).1 ++ [(remR Ls (roF Ls q).2 q).1]) = _
  exact if_neg h
set_option maxRecDepth 4000 in
set_option maxHeartbeats 16000000 in
theorem rounds_any {ad : Option Addr} {b o cap : Nat} {Ls : List (List Sp)} (hM : OkM Ls) (hok : okL Ls) (w : World) (h : LLs w ad b o cap Ls) (hN : Ls.length ≤ 5000) (ll : ∀ i, i < Ls.length → (lx Ls i).length ≤ 5000) : Calls Tryd.prog 28 #[.slice ad Ls.length cap] w fun e w' => ∃ base v vs, e = .returned v ∧ RQ w' base v vs (tdLL (roP Ls)) ∧ Gr w w' := by
  have HNx := hidb (fun u (hu : u < 2 * Ls.length) W (hG : Gr w W) => next_any (u := u) W (h.below hG.out) hu hN (fun i hi => (hM.a i hi).1) ll hok)
  have HSt : Hid (∀ s0 q ws s way, MdR Ls s0 q ws s way → s.getD way true = false → MdR Ls s0 q (ws ++ [way]) (s.set way true) (nxP Ls way)) := fun s0 q ws s way hm hn => hm.step hM hn
  have HRo := hidb (roF_all hM)
  have HRl := hidb (fun q => roF_len (Ls := Ls) q)
  have HR0 := hidb (show roF Ls 0 = ([], List.replicate (2 * Ls.length) false) from rfl)
  have HRs := hidb (show ∀ q, (roF Ls (q + 1)).2 = (remR Ls (roF Ls q).2 q).2 from fun _ => rfl)
  have HRp := hidb (show roP Ls = (roF Ls (2 * Ls.length)).1 from rfl)
  have HMl := hidb (fun (s0 : List Bool) q ws s way (hm : MdR Ls s0 q ws s way) (hl : s0.length = 2 * Ls.length) => And.intro (hm.len hl) (hm.len2 hl))
  have HMt := hidb (fun s0 q ws s way (hm : MdR Ls s0 q ws s way) => And.intro hm.lt hm.l)
  have HMs := hidb (fun (s0 : List Bool) (q : Nat) (hl : s0.length = 2 * Ls.length) (hq : q < 2 * Ls.length) => MdR.start hl hq)
  obtain ⟨CS, hCS, mk⟩ := made_runB (2 * Ls.length) (by omega)
  obtain ⟨K, hK⟩ : ∃ K, K = 2 * Ls.length := ⟨_, rfl⟩
  obtain ⟨N, hNn⟩ : ∃ N, N = Ls.length := ⟨_, rfl⟩
  rw [← hK] at HNx HRo HRl HR0 HRp HMl HMt HMs hCS mk
  rw [← hNn] at HNx hN hK ⊢
  have HKb := hidb (show K ≤ 10000 by omega)
  have eN : IntKind.i64.wrap (2 * (N : Int)) = (K : Int) := by rw [show 2 * (N : Int) = (K : Int) by omega]; exact wr_in (by omega) (by omega)
  have E0 : Hid (RS w (w.alloc (.cells CS 4)) w.heap.size (w.heap.size + 1) (roF Ls 0).2 (.slice none 0 0) [] (tdLL (roF Ls 0).1) (.slice none 0 0) []) := by
    rw [HR0.out]
    exact ⟨by rw [← hCS]; exact At.newArr _ _ _, RQ.nil _ _, World.ownsRow_nil _ _ _ _, fun g e => by simp [Value.ownBlock] at e, fun j _ hj => by simp at hj, (Gr.refl w).alloc _, ⟨Nat.le_refl _, Nat.lt_succ_self _⟩, by simp⟩
  clear h hN ll hM hok hNn hCS hK
  go_enter Tryd.func28, Tryd.ntmps28
  go_wp2
  generalize w.alloc (.cells CS 4) = W1 at *
  obtain ⟨base, hbase⟩ : ∃ z, z = w.heap.size + 1 := ⟨_, rfl⟩
  rw [← hbase] at E0
  generalize w.heap.size = SB at *
  clear hbase mk
  go_loopw [3, 14] (fun v t wr => ∃ (q : Nat) (vs : List Value), q ≤ K ∧ t = .int .i64 (q : Int) ∧ Hid (RS w wr SB base (roF Ls q).2 v vs (tdLL (roF Ls q).1) (.slice none 0 0) [])) (fun _ t _ => K - (intOf t).toNat)
  case atStart => exact ⟨0, [], Nat.zero_le _, rfl, E0⟩
  case round =>
    clear E0
    obtain ⟨q, vs, hq, rfl, E⟩ := hrel
    obtain ⟨adv, capv, rfl⟩ := own_sh E.out.q.o
    by_cases h1 : ¬ q < K
    · have h1' : ¬ (q : Int) < (K : Int) := by omega
      have HZ := hidb (show roP Ls = (roF Ls q).1 by rw [HRp.out, show K = q by omega])
      clear h1
      go_wp2
      go_ret
      exact ⟨base, _, rfl, ⟨vs, by rw [HZ.out]; exact E.out.q⟩, E.out.g⟩
    · have h1' : (q : Int) < (K : Int) := by omega
      have H1 := hidb (show q < K by omega)
      have e1 : IntKind.i64.wrap ((q : Int) + 1) = ((q + 1 : Nat) : Int) := by rw [show (q : Int) + 1 = ((q + 1 : Nat) : Int) by omega]; exact wr_in (by omega) (by have := HKb.out; omega)
      have HS1 := hidb (HRs.out q)
      have HF1 := hidb (fun h => roF_no (Ls := Ls) (q := q) h)
      have HF2 := hidb (fun h => roF_yes (Ls := Ls) (q := q) h)
      have HL0 := hidb (HRl.out q)
      have HOl := hidb (HRo.out q hq).2.2
      have HVl := hidb E.out.q.n
      generalize (roF Ls q).2 = s0 at *
      generalize (roF Ls q).1 = L0 at *
      have F0 := hidb (HMs.out s0 q HL0.out H1.out)
      generalize hvl : vs.length = vl at *
      clear h1
      go_wp2
      go_loopw [6, 7] (fun r t wx => ∃ (ws : List Nat) (way : Nat) (s : List Bool), t = .int .i64 (way : Int) ∧ Hid (RS w wx SB base s (.slice adv vl capv) vs (tdLL L0) r (tdL ws) ∧ MdR Ls s0 q ws s way)) (fun r _ _ => K + 1 - lnV r)
      case atStart => exact ⟨[], q, s0, rfl, hidb ⟨E.out, F0.out⟩⟩
      case round =>
        clear E F0
        obtain ⟨ws, way, s, rfl, E⟩ := hrel
        obtain ⟨adr, capr, rfl⟩ := own_sh E.out.1.r
        have HB := hidb (HMl.out _ _ _ _ _ E.out.2 HL0.out)
        have HT := hidb (HMt.out _ _ _ _ _ E.out.2)
        have hbi := bindex SB K K way HT.out.1
        obtain ⟨cs, fs⟩ := E.out.1.sb.getb (j := way) (by rw [HT.out.2]; exact HT.out.1)
        obtain ⟨n, hn⟩ : ∃ n, n = ws.length := ⟨_, rfl⟩
        have HRn := hidb (show (tdL ws).length = n by simp [hn])
        have HNb := hidb (show n ≤ K ∧ (s.getD way true = false → n < K) by rw [hn]; exact HB.out)
        have HNe := hidb (show n = 0 ↔ ws = [] by rw [hn]; exact List.length_eq_zero_iff)
        rw [HRn.out] at E ⊢
        clear hn
        by_cases h2 : s.getD way true = true
        · rw [show glb s way = true from h2] at cs
          have HF := hidb (E.out.2.fin h2)
          clear h2
          by_cases h3 : n = 0
          · have HZ := hidb (show (roF Ls (q + 1)).1 = L0 from HF1.out (by rw [HF.out.1]; exact HNe.out.1 h3))
            subst h3
            go_wp2
            go_roundw
            case rel => exact ⟨q + 1, vs, H1.out, by go_num, hidb (by rw [HS1.out, HF.out.2, HZ.out]; exact E.out.1.fresh)⟩
            case measure => have := H1.out; simp [intOf]; omega
          · have h3' : (0 : Int) < (n : Int) := by omega
            have HZ := hidb (show (roF Ls (q + 1)).1 = L0 ++ [ws] by rw [← HF.out.1]; exact HF2.out (by rw [HF.out.1]; exact fun e => h3 (HNe.out.2 e)))
            clear h3
            have HVb := hidb (show vl ≤ 20000 by have := HVl.out; have := HOl.out; have := HKb.out; have := H1.out; simp at *; omega)
            have HVe := hidb hvl
            clear hvl
            go_wp2_with (at_builtin; refine wpList_sx _ base (.slice adv vl capv) vs (.slice adr n capr) vl wr.heap.size _ _ rfl rfl rfl rfl HVe.out HVb.out rfl (by have := E.out.1.q.o.alloc (.cells #[.slice adr n capr] 37); rw [HVe.out] at this; exact this) (At.new1 _ _ _) (by have := E.out.1.b.2; simp; omega) ?_; intro g2 cap2 w2 hr2 hg2 hat2)
            have F2 := hidb ((E.out.1.below ((Below.refl _ _).alloc (Nat.le_refl _) (.cells #[.slice adr n capr] 37))).push HVe.out hr2.out hg2.out hat2.out)
            clear hr2 hg2 hat2
            go_roundw
            case rel => exact ⟨q + 1, _, H1.out, by go_num, hidb (by rw [HS1.out, HF.out.2, HZ.out, show tdLL (L0 ++ [ws]) = tdLL L0 ++ [tdL ws] by simp]; exact F2.out)⟩
            case measure => have := H1.out; simp [intOf]; omega
        · rw [show glb s way = false by unfold glb; simpa using h2] at cs
          have HS := hidb (HSt.out _ _ _ _ _ E.out.2 (by simpa using h2))
          have HB2 := hidb (HNb.out.2 (by simpa using h2))
          clear h2
          go_upto_region 11 with fail
          have F1 := hidb (E.out.1.set way)
          generalize wr.setCell ⟨SB, way, none⟩ (.bool true) = w2 at *
          clear E cs fs hbi
          go_upto_region 9 with (first | (go_at_call 46; refine (told_any (k := way) (by have := HT.out.1; have := HKb.out; omega) _).mono ?_; rintro e w3 ⟨rfl, rfl⟩) | (at_builtin; refine wpList_ii _ base (.slice adr n capr) (tdL ws) (tdI way) n _ _ _ rfl rfl rfl rfl HRn.out (by have := HB2.out; have := HKb.out; omega) (by have := F1.out.r.alloc (.cells #[.int .i64 (tdI way)] 3); rw [HRn.out] at this; exact this) (At.new1 _ _ _) (by have := F1.out.b.2; simp; omega) ?_; intro g2 cap2 w4 hr2 hg2 hat2))
          have F2 := hidb ((F1.out.below ((Below.refl _ _).alloc (Nat.le_refl _) (.cells #[.int .i64 (tdI way)] 3))).app HRn.out hr2.out hg2.out hat2.out)
          clear hr2 hg2 hat2 F1
          go_wp2_with (go_at_call 45; refine (HNx.out way HT.out.1 _ F2.out.g).mono ?_; rintro e w5 ⟨rfl, hB5⟩)
          have F3 := hidb (F2.out.below hB5.out)
          clear F2 hB5
          go_roundw
          case rel => exact ⟨ws ++ [way], nxP Ls way, s.set way true, rfl, hidb ⟨by rw [show tdL (ws ++ [way]) = tdL ws ++ [tdI way] by simp]; exact F3.out, HS.out⟩⟩
          case measure => have := HB2.out; simp [lnV]; omega
end Go.Proofs.YtnadgoomkaldkaaDoor
