/-
  basin.Passes.
-/
import Derived.Test.YtddnebgnohlchaaGreatDoorQJ23
import Derived.Maps.RangeWalk
import Derived.Test.YtddnebgnohlchaaGreatDoorQPsH
namespace Go.Proofs.YtddnebgnohlchaaGreatDoor
open Go.RowKit Go.Maps
attribute [local go_sem ↓] Go.wp_at_zero Go.wp_at_succ

theorem own_shapeP {w : World} {base : Nat} {v : Value} {n : Nat} {cs : List Value} (h : w.ownsRow base 45 3 v n cs) : ∃ ad cap, v = .slice ad n cap ∧ ((ad = none ∧ n = 0 ∧ cap = 0) ∨ ∃ g, ad = some ⟨g, 0, none⟩ ∧ n ≤ cap ∧ base ≤ g) := by
  obtain ⟨_, ⟨rfl, rfl⟩ | ⟨g, cap, cur, hv, hb, hg, hc, hm, hs, ht⟩⟩ := h
  · exact ⟨none, 0, rfl, .inl ⟨rfl, rfl, rfl⟩⟩
  · exact ⟨_, cap, hv, .inr ⟨g, rfl, by omega, hb⟩⟩
/-- What Passes answers. -/
def PsA (m n : Nat) (l : List Int) (w w' : World) (e : Ending) : Prop := ∃ ad b cap, e = .returned (.tuple #[.slice ad (psQ (gP2 m n l) l.length l.length 0).length cap, .nilIface]) ∧ TSl w' (fun p => (gP2 m n l p).getD 0) ad b cap (psQ (gP2 m n l) l.length l.length 0) ∧ Gr w w' ∧ (psQ (gP2 m n l) l.length l.length 0).length ≤ 65536
set_option maxRecDepth 4000 in
set_option maxHeartbeats 16000000 in
theorem passes_ok (g : Nat → Addr) {m n Lb Lo Lcap : Nat} {l : List Int} (w : World) (hR : Rs w Lb Lo Lcap l) (ok : Ok l m n) (hv : vcode m n l = 0) (hl : Lai w g) : Calls Tryz.prog 7 #[raV m n (.slice (some ⟨Lb, Lo, none⟩) l.length Lcap)] w fun e w' => PsA m n l w w' e := by
  have hlen := ok.len_le
  have PX : Hid (PF w (w.alloc (.cells #[.int .i64 (m : Int), .int .i64 (n : Int), .slice (some ⟨Lb, Lo, none⟩) l.length Lcap] 32)) w.heap.size [.int .i64 (m : Int), .int .i64 (n : Int), .slice (some ⟨Lb, Lo, none⟩) l.length Lcap]) := ⟨At.new3 _ _ _ _ _, (Gr.refl w).alloc _⟩
  have C1 : Hid (∀ W, Gr w W → Calls Tryz.prog 20 #[.agg #[.int .i64 (m : Int), .int .i64 (n : Int), .slice (some ⟨Lb, Lo, none⟩) l.length Lcap]] W fun e w' => ∃ B, e = .returned (.tuple #[.slice (some ⟨B, 0, none⟩) l.length l.length, .nilIface]) ∧ At w' B (ir (hmL m n l)) ∧ W.heap.size ≤ B ∧ Gr W w') := fun W hG => basins_ok g W (hR.below hG.out) ok hv (hl.below hG.out)
  have C2 : Hid (∀ W, Calls Tryz.prog 21 #[.agg #[.int .i64 (m : Int), .int .i64 (n : Int), .slice (some ⟨Lb, Lo, none⟩) l.length Lcap]] W fun e w' => ∃ v, e = .returned v ∧ ∃ base, w'.ownsRow base 62 2 v (prK m n D4 l.length).length (qr (prK m n D4 l.length)) ∧ W.heap.size ≤ base ∧ Gr W w') := fun W => touching_any W ok
  have HRs := hidb (fun W (hG : Gr w W) => (hR.below hG.out).isl)
  have hLb := hR.lt
  have HEl := hidb (fun q hq => prK_el ok (q := q) hq)
  have HHi := hidb ok.hi
  have HHm := hidb (fun c (hc : c < l.length) => hom_lt m n l ok.m1 ok.len hc)
  have HPn : Hid ((prK m n D4 l.length).length ≤ 65536) := by
    show _ ≤ _
    have := prK_len m n D4 l.length
    simp at this
    omega
  have HOk := hidb ok
  obtain ⟨P, hPe⟩ : ∃ P, P = prK m n D4 l.length := ⟨_, rfl⟩
  have HPe := hidb hPe
  rw [← hPe] at C2 HEl HPn
  obtain ⟨N, hN⟩ : ∃ N, N = l.length := ⟨_, rfl⟩
  have HN := hidb hN
  rw [← hN] at PX C1 C2 HEl HHm hlen ⊢
  have HL := hidb hlen
  have hmm := @run_makeMap Tryz.prog
  have HLb := hidb hLb
  clear hR ok hv hl hlen hPe hN hLb
  show Calls Tryz.prog 7 #[.agg #[.int .i64 (m : Int), .int .i64 (n : Int), .slice (some ⟨Lb, Lo, none⟩) N Lcap]] w _
  go_enter Tryz.func7, Tryz.ntmps7
  obtain ⟨q0, q1, q2⟩ := PX.out.a.c3
  go_wp2_with fail
  refine (C1.out _ PX.out.gr).mono ?_
  rintro e w3 ⟨HB, rfl, hAH, hHB, hB3⟩
  clear q0 q1 q2
  replace PX := hidb (PX.out.below hB3.out)
  have HAH := hidb hAH
  have HHB := hidb (Nat.le_trans PX.out.gr.out.size (Nat.le_refl _))
  clear hB3 hHB hAH C1 HHB
  obtain ⟨q0, q1, q2⟩ := PX.out.a.c3
  go_upto_region 5 with fail
  obtain ⟨M, hM⟩ : ∃ M, M = w3.heap.size := ⟨_, rfl⟩
  have hMm : PM (w3.alloc (.map #[] 0)) M 0 (.map []) := by rw [hM]; exact World.ownsMap_made _ _ _ _
  have hG4 : Below w3.heap.size w3 (w3.alloc (.map #[] 0)) := (Below.refl _ _).alloc (Nat.le_refl _) _
  have hM4 : M < (w3.alloc (.map #[] 0)).heap.size := by rw [hM]; simp
  have hMw : w.heap.size ≤ M ∧ HB < M ∧ w.heap.size < M := by rw [hM]; exact ⟨PX.out.gr.out.size, HAH.out.lt, Nat.lt_of_lt_of_le (PX.out.a.lt) (Nat.le_refl _)⟩
  have PX4 := PX.out.below hG4
  have AH4 := At.below hG4 HAH.out
  rw [← hM]
  have HMw := hidb hMw
  generalize w3.alloc (.map #[] 0) = w4 at *
  replace PX := hidb PX4
  replace HAH := hidb AH4
  clear PX4 AH4 hG4 hM hMw q0 q1 q2 hmm
  obtain ⟨q0, q1, q2⟩ := PX.out.a.c3
  go_wp2_with fail
  refine (C2.out _).mono ?_
  rintro e w5 ⟨v, rfl, base, hown, hbase, hB5⟩
  replace PX := hidb (PX.out.below hB5.out)
  replace HAH := hidb (At.below hB5.out HAH.out)
  have hMm5 := PM.below hMm hB5.out
  obtain ⟨pad, pb, pcap, rfl, hPS, hpb⟩ := own_pslb hown rfl
  obtain ⟨K, hK⟩ : ∃ K, K = P.length := ⟨_, rfl⟩
  have HK := hidb hK
  have HPx := hidb hPS.ix
  rw [← hK] at HPn HPx
  have HPS := hidb hPS
  have HPb : Hid (∀ j, j < P.length → pb ≠ M) := fun j hj => by have := hpb j hj; omega
  have E0 : Hid (QM m n l w5 w5 M 0 P) := ⟨⟨_, hMm5, MD.nil⟩, Onl.refl _ _⟩
  rw [← hK]
  clear hown hbase hB5 hMm5 hMm hM4 hPS hpb hK q0 q1 q2 C2
  go_wp2
  go_loopw [30] (fun t wr => ∃ k : Nat, k ≤ K ∧ t = .int .i64 (k : Int) ∧ Hid (QM m n l w5 wr M k P)) (fun t _ => K - (intOf t).toNat)
  case atStart => exact ⟨0, Nat.zero_le _, rfl, E0⟩
  case round =>
    clear E0
    obtain ⟨k, hk, rfl, E⟩ := hrel
    by_cases h1 : ¬ k < K
    · have h1' : ¬ (k : Int) < (K : Int) := by omega
      obtain rfl : k = K := by omega
      have hTk : P.take k = P := List.take_of_length_le (by rw [← HK.out]; exact Nat.le_refl _)
      obtain ⟨D, hm, hd⟩ := E.out.m
      rw [hTk, HPe.out] at hd
      have hd2 : MD D (gP2 m n l) := hd
      have Hd := hidb hd2
      have G6 := hidb (Onl.gr PX.out.gr E.out.on HMw.out.1)
      have hsz := hm.size_le
      clear hTk hd hd2 h1' h1 E
      go_wp2_with (at_range; refine wpList_range_own _ rfl _ 59 rfl 62 3 pairKeyed undM2 _ M k _ rfl hm ?_; intro w10 hrg0 hg0 hs0)
      go_frame
      obtain ⟨RB, hRB⟩ : ∃ B, B = wr.heap.size := ⟨_, rfl⟩
      have hMl := hm.lt
      have G10 := hidb (Below.grown G6.out.out hg0 G6.out.out.size (fun j hj => by cases hj))
      rw [← hRB] at hrg0 hs0 ⊢
      have HMR := hidb (show M < RB ∧ RB < w10.heap.size by omega)
      have E0 : Hid (w10.ranges Tryz.prog 62 (plainElem Tryz.prog 3) M RB k D (Maps.has D) (Maps.size D) ∧ Cm (gP2 m n l) (Maps.has D) [] ∧ w10.ownsRow w10.heap.size 45 3 (.slice none 0 0) 0 (tr (fun p => (gP2 m n l p).getD 0) []) ∧ (([] : List Nn).length = 0 ∧ 0 + Maps.size D ≤ k) ∧ Onl RB w10 w10) := ⟨hrg0, Cm.start Hd.out, World.ownsRow_nil _ _ _ _, ⟨rfl, by omega⟩, Onl.refl _ _⟩
      have HM1 := hidb hrg0.left_eq
      clear hm hsz hg0 hs0 hRB hMl hrg0
      go_loopw [15] (fun s wx => ∃ (left : Lit → Bool) (cnt q : Nat) (ks : List Nn), Hid (wx.ranges Tryz.prog 62 (plainElem Tryz.prog 3) M RB k D left cnt ∧ Cm (gP2 m n l) left ks ∧ wx.ownsRow w10.heap.size 45 3 s q (tr (fun p => (gP2 m n l p).getD 0) ks) ∧ (ks.length = q ∧ q + cnt ≤ k) ∧ Onl RB w10 wx)) (fun _ wx => wx.rangeLeft M RB)
      case atStart => exact ⟨_, _, 0, [], E0⟩
      case round =>
        clear E0
        obtain ⟨left, cnt, q, ks, E⟩ := hrel
        have hrg := E.out.1
        go_wp2_with (at_next; refine wpList_next_raw _ rfl _ rfl 62 pairKeyed _ M RB k D left cnt rfl hrg ?_ ?_)
        · intro _ hl0
          have HZ : Hid (srtN ks = psQ (gP2 m n l) N N 0) := by
            have hc := E.out.2.1
            have hs := fun p (hp : (gP2 m n l p).isSome = true) => gP2_key HOk.out hp
            refine srtN_eq hc.nd (hc.fin hl0 (fun p hp => ?_)) (fun p hp => ?_)
            · have := hs p hp; have := HL.out; have := HN.out; exact ⟨by omega, by omega⟩
            · have := hs p hp; rw [HN.out]; exact ⟨this.1, this.2.1⟩
          obtain ⟨hE1, hE2, hE3, hE4, hE5⟩ := E.out
          obtain ⟨ad, cap, rfl, hS⟩ := own_shapeP hE3
          have HG : Hid (Gr w wr) := hidb (Onl.gr (show Gr w w10 from G10.out) hE5 (by have := HMR.out; have := HMw.out; omega))
          rcases hS with ⟨rfl, hq0, rfl⟩ | ⟨g1, rfl, hcap, hgb⟩
          · subst hq0
            have HF : Hid (PsA m n l w wr (.returned (.tuple #[.slice none 0 0, .nilIface]))) := by
              have h0 : psQ (gP2 m n l) l.length l.length 0 = [] := by
                rw [← HN.out, ← HZ.out, List.length_eq_zero_iff.1 hE4.1]; simp [srtN]
              refine hidb ⟨none, 0, 0, ?_, ?_, HG.out, ?_⟩
              · rw [h0]; rfl
              · rw [h0]; exact TSl.nil _ _ _ _ _
              · rw [h0]; exact Nat.zero_le _
            clear hE1 hE2 hE3 hE4 hE5 hrg hl0 HZ HG E
            go_wp2_with fail
            refine (sortP_nil _ _).mono ?_
            rintro e w12 ⟨rfl, rfl⟩
            go_wp2_with fail
            go_ret2
            exact HF.out
          · obtain rfl := hE4.1
            have HSo : Hid (Calls Tryz.prog 22 #[.slice (some ⟨g1, 0, none⟩) ks.length cap, .func (.func 23) #[] #[]] wr fun e w' => e = .returned (.tuple #[]) ∧ PsA m n l w w' (.returned (.tuple #[.slice (some ⟨g1, 0, none⟩) ks.length cap, .nilIface]))) := by
              refine hidb ((sortP_any (by have := HPn.out; omega) wr hE3 hcap).mono ?_)
              rintro e w12 ⟨rfl, hT, hon⟩
              refine ⟨rfl, some ⟨g1, 0, none⟩, g1, cap, ?_, ?_, Onl.gr HG.out hon (by have := HMR.out; have := HMw.out; omega), ?_⟩
              · rw [← HN.out, ← HZ.out, srtN_len]
              · rw [← HN.out, ← HZ.out]; exact hT
              · rw [← HN.out, ← HZ.out, srtN_len]; have := HPn.out; omega
            clear hE1 hE2 hE3 hE4 hE5 hrg hl0 HZ HG E hcap hgb
            go_wp2_with fail
            refine HSo.out.mono ?_
            rintro e w12 ⟨rfl, HF⟩
            go_wp2_with fail
            go_ret2
            exact HF
        · intro key v kl y1 y2 w11 cnt1 hkey hlk hv hat hrg1 hlt hg1 hen
          obtain ⟨p, hp, rfl, rfl, rfl, hC1⟩ := Hd.out.entry E.out.2.1 hkey hlk hv hat
          obtain ⟨hE1, hE2, hE3, hE4, hE5⟩ := E.out
          obtain ⟨ad, cap, rfl, hS⟩ := own_shapeP hE3
          have hO := hE3.kept hg1 (.inr fun e => by have := (hE3.lt RB e).1; have := HMR.out; omega)
          have hon1 := hE5.trans hg1
          have Hlt : Hid (wr.rangeLeft M RB = cnt) := hidb hE1.left_eq
          have HQ : Hid (ks.length = q ∧ q ≤ 140000 ∧ q + 1 + cnt1 ≤ k ∧ cnt1 < cnt) := by have := HPn.out; exact hidb ⟨hE4.1, by omega, by omega, hlt⟩
          have E2 : Hid (w11.ranges Tryz.prog 62 (plainElem Tryz.prog 3) M RB k D (fun z => left z && !z.sameKey (kP p)) cnt1 ∧ w11.ownsRow w10.heap.size 45 3 (.slice ad q cap) q (tr (fun p => (gP2 m n l p).getD 0) ks) ∧ Onl RB w10 w11) := hidb ⟨hrg1, hO, hon1⟩
          have HC1 := hidb hC1
          clear hE1 hE2 hE3 hE4 hE5 hrg hrg1 hO hon1 hC1 E hS hlt hat hv hlk hkey hg1 hp
          have HG11 : Hid (w10.heap.size ≤ w11.heap.size) := hidb E2.out.2.2.size
          go_upto_region 19 with fail
          have E3 : Hid ((w11.alloc (.cells #[.int .i64 (p.1 : Int), .int .i64 (p.2 : Int)] 62)).ranges Tryz.prog 62 (plainElem Tryz.prog 3) M RB k D (fun z => left z && !z.sameKey (kP p)) cnt1 ∧ (w11.alloc (.cells #[.int .i64 (p.1 : Int), .int .i64 (p.2 : Int)] 62)).ownsRow w10.heap.size 45 3 (.slice ad q cap) q (tr (fun p => (gP2 m n l p).getD 0) ks) ∧ Onl RB w10 (w11.alloc (.cells #[.int .i64 (p.1 : Int), .int .i64 (p.2 : Int)] 62))) := hidb ⟨E2.out.1.alloc _, E2.out.2.1.alloc _, E2.out.2.2.alloc _⟩
          have FK : At (w11.alloc (.cells #[.int .i64 (p.1 : Int), .int .i64 (p.2 : Int)] 62)) w11.heap.size [.int .i64 (p.1 : Int), .int .i64 (p.2 : Int)] := At.new2 _ _ _ _
          generalize hKB : w11.heap.size = KB at *
          generalize w11.alloc (.cells #[.int .i64 (p.1 : Int), .int .i64 (p.2 : Int)] 62) = w12 at *
          have FK2 := FK.c2
          obtain ⟨k0, k1⟩ := FK2
          clear hKB FK E2 HG11 hen
          go_wp2_with (at_builtin; refine wpList_t3 (fun p => (gP2 m n l p).getD 0) _ w10.heap.size (.slice ad q cap) ks p q w12.heap.size _ _ rfl rfl rfl rfl HQ.out.1 HQ.out.2.1 (E3.out.2.1.alloc _) (At.new3 _ _ _ _ _) (by have := E3.out.2.2.size; simp; omega) ?_; intro g3 cap3 w13 hown hgrow)
          have E4 : Hid (w13.ranges Tryz.prog 62 (plainElem Tryz.prog 3) M RB k D (fun z => left z && !z.sameKey (kP p)) cnt1 ∧ Onl RB w10 w13) := hidb (by
            have hob := fun g e => (E3.out.2.1.lt g e).1
            have := HMR.out
            exact ⟨(E3.out.1.alloc _).kept hgrow.out (fun e => by have := hob _ e.symm; omega) (fun e => by have := hob _ e.symm; omega), Onl.grown (E3.out.2.2.alloc _) hgrow.out (fun g e => hob g e)⟩)
          have HM2 : Hid (w13.rangeLeft M RB < wr.rangeLeft M RB) := by
            have := E4.out.1.left_eq
            have := HQ.out
            rw [Hlt.out]
            exact hidb (by omega)
          clear hgrow E3 k0 k1 Hlt
          go_wp2_with fail
          go_roundw
          case rel => exact ⟨_, cnt1, q + 1, ks ++ [p], hidb ⟨E4.out.1, HC1.out, hown.out, ⟨by simp [HQ.out.1], HQ.out.2.2.1⟩, E4.out.2⟩⟩
          case measure => exact HM2.out
    · have h1' : (k : Int) < (K : Int) := by omega
      have hkK : k < K := by omega
      have HkK := hidb hkK
      have hkP : k < P.length := by rw [← HK.out]; exact hkK
      have e1 : IntKind.i64.wrap ((k : Int) + 1) = ((k + 1 : Nat) : Int) := by rw [show (k : Int) + 1 = ((k + 1 : Nat) : Int) by omega]; exact wrap_in (by have := HPn.out; omega) (by have := HPn.out; omega)
      have ixP := HPx.out k hkK
      obtain ⟨⟨cp0, cp1⟩, -⟩ := (HPS.out.onl E.out.on HPb.out).row k hkP
      have hTk : P.take (k + 1) = P.take k ++ [wx P k] := by rw [List.take_succ_eq_append_getElem hkP]; unfold wx; simp [hkP]
      have hmem : wx P k ∈ P := by unfold wx; simp [hkP]
      obtain ⟨c, o, hq, hc, ho⟩ := HEl.out _ hmem
      have HSn : Hid (msF m n l (P.take (k + 1)) = stM m n l (msF m n l (P.take k)) ((c : Int), o)) := by show _ = _; rw [hTk, msF_snoc, hq]
      rw [hq] at cp0 cp1
      dsimp only at cp0 cp1
      have HCO := hidb (show c < N ∧ o < N from ⟨hc, ho⟩)
      clear hTk hmem hq hkP h1 hkK
      obtain ⟨PB, hPB⟩ : ∃ B, B = wr.heap.size := ⟨_, rfl⟩
      have hw5 : w5.heap.size ≤ PB := by rw [hPB]; exact E.out.on.size
      have hMl : M < wr.heap.size := by obtain ⟨D, hm, -⟩ := E.out.m; exact hm.lt
      have FP : At (wr.alloc (.cells #[.int .i64 (c : Int), .int .i64 (o : Int)] 62)) PB [.int .i64 (c : Int), .int .i64 (o : Int)] := At.at2 hPB _ _ _
      have E1 := E.out.more ((Below.refl _ _).alloc (Nat.le_refl _) (.cells #[.int .i64 (c : Int), .int .i64 (o : Int)] 62))
      have hPBM : ¬ PB = M := by omega
      go_upto_region 8 with fail
      rw [← hPB]
      have HPB := hidb (show w5.heap.size ≤ PB ∧ PB ≠ M from ⟨hw5, hPBM⟩)
      generalize wr.alloc (.cells #[.int .i64 (c : Int), .int .i64 (o : Int)] 62) = w6 at *
      replace E := hidb E1
      clear hPB hw5 hMl E1 hPBM cp0 cp1 ixP
      have AH6 := HAH.out.onl E.out.on (by have := HMw.out; omega)
      obtain ⟨ch1, -⟩ := AH6.get (j := c) (by rw [hmL_len, ← HN.out]; exact hc)
      obtain ⟨ch2, -⟩ := AH6.get (j := o) (by rw [hmL_len, ← HN.out]; exact ho)
      rw [gl_get (by rw [hmL_len, ← HN.out]; exact hc), gl_hm (by rw [← HN.out]; exact hc)] at ch1
      rw [gl_get (by rw [hmL_len, ← HN.out]; exact ho), gl_hm (by rw [← HN.out]; exact ho)] at ch2
      have ixh1 := iindex HB 0 N N c hc
      have ixh2 := iindex HB 0 N N o ho
      rw [Nat.zero_add] at ixh1 ixh2
      have hh1 := HHm.out c hc
      have hh2 := HHm.out o ho
      have Hkq : Hid (kq m n l ((c : Int), o) = (min (hom m n l c) (hom m n l o), max (hom m n l c) (hom m n l o)) ∧ vq l ((c : Int), o) = max (gl l c) (gl l o)) := ⟨by unfold kq; simp only [Int.toNat_natCast], by unfold vq; simp only [Int.toNat_natCast]⟩
      have Hst1 : Hid (hom m n l c = hom m n l o → stM m n l (msF m n l (P.take k)) ((c : Int), o) = msF m n l (P.take k)) := fun h => stM_eq (by simp only [Int.toNat_natCast]; exact h)
      have Hst2 : Hid (¬ hom m n l c = hom m n l o → (∀ u, msF m n l (P.take k) (kq m n l ((c : Int), o)) = some u → vq l ((c : Int), o) < u) → stM m n l (msF m n l (P.take k)) ((c : Int), o) = fun x => if x = kq m n l ((c : Int), o) then some (vq l ((c : Int), o)) else msF m n l (P.take k) x) := fun h => stM_put (by simp only [Int.toNat_natCast]; exact h)
      have Hst3 : Hid (¬ hom m n l c = hom m n l o → ∀ u, msF m n l (P.take k) (kq m n l ((c : Int), o)) = some u → ¬ vq l ((c : Int), o) < u → stM m n l (msF m n l (P.take k)) ((c : Int), o) = msF m n l (P.take k)) := fun h u hF hu => stM_keep (by simp only [Int.toNat_natCast]; exact h) hF hu
      generalize hom m n l c = h1 at *
      generalize hom m n l o = h2 at *
      have Hh := hidb (show h1 < N ∧ h2 < N from ⟨hh1, hh2⟩)
      obtain ⟨z0, z1⟩ := FP.c2
      clear hh1 hh2 AH6
      refine wp_region_held_drew (S := (fun w' => (w'.cell? ⟨PB, 0, none⟩ = some (.int .i64 (c : Int)) ∧ w'.cell? ⟨PB, 1, none⟩ = some (.int .i64 (o : Int))) ∧ w'.cell? ⟨HB, c, none⟩ = some (.int .i64 (h1 : Int)) ∧ w'.cell? ⟨HB, o, none⟩ = some (.int .i64 (h2 : Int)))) (by kernel_rfl) ?_ (fun hHeld => ?_)
      · (try dsimp only); (exact ⟨⟨z0, z1⟩, ch1, ch2⟩)
      refine wpAnyH_take (i := 0) (v := ?vr80x2) rfl (by kernel_rfl) (by kernel_rfl) (by kernel_rfl) (fun _ _ _ h => h) (Or.inl ⟨by kernel_rfl, ?hr80x2⟩) (by assumption) ?rr80x2
      case hr80x2 => (intro w hSw; (try dsimp only at hSw); go_simp; try with_reducible rfl)
      (try simp only [Act.put, List.getElem_toArray, List.getElem_cons_zero, List.setIfInBounds_toArray, List.set_cons_zero, List.set_cons_succ])
      refine wpAnyH_take (i := 1) (v := ?vr81x5) rfl (by kernel_rfl) (by kernel_rfl) (by kernel_rfl) (fun _ _ _ h => h) (Or.inl ⟨by kernel_rfl, ?hr81x5⟩) (by assumption) ?rr81x5
      case hr81x5 => (intro w hSw; (try dsimp only at hSw); go_simp; try with_reducible rfl)
      (try simp only [Act.put, List.getElem_toArray, List.getElem_cons_zero, List.getElem_cons_succ, List.setIfInBounds_toArray, List.set_cons_zero, List.set_cons_succ])
      refine wpAnyH_take (i := 2) (v := ?vr82x8) rfl (by kernel_rfl) (by kernel_rfl) (by kernel_rfl) (fun _ _ _ h => h) (Or.inl ⟨by kernel_rfl, ?hr82x8⟩) (by assumption) ?rr82x8
      case hr82x8 => (intro w hSw; (try dsimp only at hSw); go_simp; try with_reducible rfl)
      (try simp only [Act.put, List.getElem_toArray, List.getElem_cons_zero, List.getElem_cons_succ, List.setIfInBounds_toArray, List.set_cons_zero, List.set_cons_succ])
      refine wpAnyH_take (i := 3) (v := ?vr83x11) rfl (by kernel_rfl) (by kernel_rfl) (by kernel_rfl) (fun _ _ _ h => h) (Or.inl ⟨by kernel_rfl, ?hr83x11⟩) (by assumption) ?rr83x11
      case hr83x11 => (intro w hSw; (try dsimp only at hSw); go_simp; try with_reducible rfl)
      (try simp only [Act.put, List.getElem_toArray, List.getElem_cons_zero, List.getElem_cons_succ, List.setIfInBounds_toArray, List.set_cons_zero, List.set_cons_succ])
      refine wpAnyH_take (i := 4) (v := ?vr84x14) rfl (by kernel_rfl) (by kernel_rfl) (by kernel_rfl) (fun _ _ _ h => h) (Or.inl ⟨by kernel_rfl, ?hr84x14⟩) (by assumption) ?rr84x14
      case hr84x14 => (intro w hSw; (try dsimp only at hSw); go_simp; try with_reducible rfl)
      (try simp only [Act.put, List.getElem_toArray, List.getElem_cons_zero, List.getElem_cons_succ, List.setIfInBounds_toArray, List.set_cons_zero, List.set_cons_succ])
      refine wpAnyH_take (i := 10) (v := ?vr810x17) rfl (by kernel_rfl) (by kernel_rfl) (by kernel_rfl) (fun _ _ _ h => h) (Or.inl ⟨by kernel_rfl, ?hr810x17⟩) (by assumption) ?rr810x17
      case hr810x17 => (intro w hSw; (try dsimp only at hSw); go_simp; try with_reducible rfl)
      (try simp only [Act.put, List.getElem_toArray, List.getElem_cons_zero, List.getElem_cons_succ, List.setIfInBounds_toArray, List.set_cons_zero, List.set_cons_succ])
      refine wpAnyH_take (i := 5) (v := ?vr85x20) rfl (by kernel_rfl) (by kernel_rfl) (by kernel_rfl) (fun _ _ _ h => h) (Or.inl ⟨by kernel_rfl, ?hr85x20⟩) (by assumption) ?rr85x20
      case hr85x20 => (intro w hSw; (try dsimp only at hSw); go_simp; try with_reducible rfl)
      (try simp only [Act.put, List.getElem_toArray, List.getElem_cons_zero, List.getElem_cons_succ, List.setIfInBounds_toArray, List.set_cons_zero, List.set_cons_succ])
      refine wpAnyH_take (i := 6) (v := ?vr86x23) rfl (by kernel_rfl) (by kernel_rfl) (by kernel_rfl) (fun _ _ _ h => h) (Or.inl ⟨by kernel_rfl, ?hr86x23⟩) (by assumption) ?rr86x23
      case hr86x23 => (intro w hSw; (try dsimp only at hSw); go_simp; try with_reducible rfl)
      (try simp only [Act.put, List.getElem_toArray, List.getElem_cons_zero, List.getElem_cons_succ, List.setIfInBounds_toArray, List.set_cons_zero, List.set_cons_succ])
      refine wpAnyH_take (i := 7) (v := ?vr87x26) rfl (by kernel_rfl) (by kernel_rfl) (by kernel_rfl) (fun _ _ _ h => h) (Or.inl ⟨by kernel_rfl, ?hr87x26⟩) (by assumption) ?rr87x26
      case hr87x26 => (intro w hSw; (try dsimp only at hSw); go_simp; try with_reducible rfl)
      (try simp only [Act.put, List.getElem_toArray, List.getElem_cons_zero, List.getElem_cons_succ, List.setIfInBounds_toArray, List.set_cons_zero, List.set_cons_succ])
      refine wpAnyH_take (i := 8) (v := ?vr88x29) rfl (by kernel_rfl) (by kernel_rfl) (by kernel_rfl) (fun _ _ _ h => h) (Or.inl ⟨by kernel_rfl, ?hr88x29⟩) (by assumption) ?rr88x29
      case hr88x29 => (intro w hSw; (try dsimp only at hSw); go_simp; try with_reducible rfl)
      (try simp only [Act.put, List.getElem_toArray, List.getElem_cons_zero, List.getElem_cons_succ, List.setIfInBounds_toArray, List.set_cons_zero, List.set_cons_succ])
      refine wpAnyH_take (i := 9) (v := ?vr89x32) rfl (by kernel_rfl) (by kernel_rfl) (by kernel_rfl) (fun _ _ _ h => h) (Or.inl ⟨by kernel_rfl, ?hr89x32⟩) (by assumption) ?rr89x32
      case hr89x32 => (intro w hSw; (try dsimp only at hSw); go_simp; try with_reducible rfl)
      (try simp only [Act.put, List.getElem_toArray, List.getElem_cons_zero, List.getElem_cons_succ, List.setIfInBounds_toArray, List.set_cons_zero, List.set_cons_succ])
      refine wpAnyH_take (i := 11) (v := ?vr811x35) rfl (by kernel_rfl) (by kernel_rfl) (by kernel_rfl) (fun _ _ _ h => h) (Or.inl ⟨by kernel_rfl, ?hr811x35⟩) (by assumption) ?rr811x35
      case hr811x35 => (intro w hSw; (try dsimp only at hSw); go_simp; try with_reducible rfl)
      (try simp only [Act.put, List.getElem_toArray, List.getElem_cons_zero, List.getElem_cons_succ, List.setIfInBounds_toArray, List.set_cons_zero, List.set_cons_succ])
      refine wpAnyH_done (by kernel_rfl) ?_ _
      clear ch1 ch2 ixh1 ixh2 z0 z1
      replace FP := FP.drew
      replace E := hidb (E.out.more (Below.refl _ _).drew)
      generalize World.drew _ = w7 at *
      by_cases hhe : h1 = h2
      · have HS := hidb (Hst1.out hhe)
        have hheB : ((h1 : Int) == (h2 : Int)) = true := by subst hhe; simp
        have hheI : (h1 : Int) = (h2 : Int) := by omega
        subst hhe
        clear hheI
        go_wp2
        go_roundw
        case rel => exact ⟨k + 1, HkK.out, by go_num, hidb ⟨by rw [HSn.out, HS.out]; obtain ⟨D, hm, hd⟩ := E.out.m; exact ⟨D, hm.mono (by omega), hd⟩, E.out.on⟩⟩
        case measure => have := HkK.out; simp [intOf]; omega
      · have hheI : ¬ (h1 : Int) = (h2 : Int) := by omega
        have hheB : ((h1 : Int) == (h2 : Int)) = false := by simpa using hheI
        obtain ⟨p1, hp1, e2⟩ : ∃ p : Nat, p = min h1 h2 ∧ min (h1 : Int) (h2 : Int) = (p : Int) := ⟨_, rfl, by omega⟩
        obtain ⟨p2, hp2, e3⟩ : ∃ p : Nat, p = max h1 h2 ∧ max (h1 : Int) (h2 : Int) = (p : Int) := ⟨_, rfl, by omega⟩
        have hg1 := HHi.out c
        have hg2 := HHi.out o
        unfold hiI at hg1 hg2
        have G7 := Onl.gr PX.out.gr E.out.on HMw.out.1
        have HQ0 : Hid (∀ W, Gr w7 W → (W.cell? ⟨PB, 0, none⟩ = some (.int .i64 (c : Int)) ∧ W.cell? ⟨PB, 1, none⟩ = some (.int .i64 (o : Int))) ∧ W.cell? ⟨w.heap.size, 2, none⟩ = some (.slice (some ⟨Lb, Lo, none⟩) N Lcap) ∧ W.cell? ⟨Lb, Lo + c, none⟩ = some (.int .i64 (gl l c)) ∧ W.cell? ⟨Lb, Lo + o, none⟩ = some (.int .i64 (gl l o))) := fun W hG =>
          ⟨(At.below hG.out FP).c2, (At.below hG.out (PX.out.a.onl E.out.on (by have := HMw.out; omega))).c3.2.2, (HRs.out W (Gr.step G7 hG.out)).gcell (by rw [← HN.out]; exact hc), (HRs.out W (Gr.step G7 hG.out)).gcell (by rw [← HN.out]; exact ho)⟩
        have ixL1 := iindex Lb Lo N Lcap c hc
        have ixL2 := iindex Lb Lo N Lcap o ho
        have Hst2' := hidb (Hst2.out hhe)
        have Hst3' := hidb (Hst3.out hhe)
        rw [Hkq.out.1, Hkq.out.2] at Hst2' Hst3'
        rw [← hp1, ← hp2] at Hst2' Hst3'
        generalize gl l c = g1 at *
        generalize gl l o = g2 at *
        obtain ⟨v, hv, e4⟩ : ∃ v, v = max g1 g2 ∧ max g1 g2 = v := ⟨_, rfl, rfl⟩
        rw [← hv] at Hst2' Hst3'
        have Hv := hidb (show smN (p1, p2) ∧ -9223372036854775808 ≤ v ∧ v ≤ 9223372036854775807 from ⟨⟨by have := Hh.out; have := HL.out; show p1 < 20000; omega, by have := Hh.out; have := HL.out; show p2 < 20000; omega⟩, by omega, by omega⟩)
        clear Hst1 Hst2 Hst3 Hkq hp1 hp2 hg1 hg2 hv hhe hc ho
        go_upto_region 10 with fail
        refine wp_region_held_drew (S := (fun w' => (w'.cell? ⟨PB, 0, none⟩ = some (.int .i64 (c : Int)) ∧ w'.cell? ⟨PB, 1, none⟩ = some (.int .i64 (o : Int))) ∧ w'.cell? ⟨w.heap.size, 2, none⟩ = some (.slice (some ⟨Lb, Lo, none⟩) N Lcap) ∧ w'.cell? ⟨Lb, Lo + c, none⟩ = some (.int .i64 g1) ∧ w'.cell? ⟨Lb, Lo + o, none⟩ = some (.int .i64 g2))) (by kernel_rfl) ?_ (fun hHeld => ?_)
        · (try dsimp only); (refine HQ0.out _ ?_; ((with_reducible repeat' (first | assumption | refine Gr.drew ?_ | refine Gr.alloc ?_ _ | refine Gr.set ?_ (by first | omega | (simp; omega)) _ _ | exact Gr.refl _)); done))
        refine wpAnyH_take (i := 0) (v := ?vr100x2) rfl (by kernel_rfl) (by kernel_rfl) (by kernel_rfl) (fun _ _ _ h => h) (Or.inl ⟨by kernel_rfl, ?hr100x2⟩) (by assumption) ?rr100x2
        case hr100x2 => (intro w hSw; (try dsimp only at hSw); go_simp; try with_reducible rfl)
        (try simp only [Act.put, List.getElem_toArray, List.getElem_cons_zero, List.setIfInBounds_toArray, List.set_cons_zero, List.set_cons_succ])
        refine wpAnyH_take (i := 1) (v := ?vr101x5) rfl (by kernel_rfl) (by kernel_rfl) (by kernel_rfl) (fun _ _ _ h => h) (Or.inl ⟨by kernel_rfl, ?hr101x5⟩) (by assumption) ?rr101x5
        case hr101x5 => (intro w hSw; (try dsimp only at hSw); go_simp; try with_reducible rfl)
        (try simp only [Act.put, List.getElem_toArray, List.getElem_cons_zero, List.getElem_cons_succ, List.setIfInBounds_toArray, List.set_cons_zero, List.set_cons_succ])
        refine wpAnyH_take (i := 2) (v := ?vr102x8) rfl (by kernel_rfl) (by kernel_rfl) (by kernel_rfl) (fun _ _ _ h => h) (Or.inl ⟨by kernel_rfl, ?hr102x8⟩) (by assumption) ?rr102x8
        case hr102x8 => (intro w hSw; (try dsimp only at hSw); go_simp; try with_reducible rfl)
        (try simp only [Act.put, List.getElem_toArray, List.getElem_cons_zero, List.getElem_cons_succ, List.setIfInBounds_toArray, List.set_cons_zero, List.set_cons_succ])
        refine wpAnyH_take (i := 3) (v := ?vr103x11) rfl (by kernel_rfl) (by kernel_rfl) (by kernel_rfl) (fun _ _ _ h => h) (Or.inl ⟨by kernel_rfl, ?hr103x11⟩) (by assumption) ?rr103x11
        case hr103x11 => (intro w hSw; (try dsimp only at hSw); go_simp; try with_reducible rfl)
        (try simp only [Act.put, List.getElem_toArray, List.getElem_cons_zero, List.getElem_cons_succ, List.setIfInBounds_toArray, List.set_cons_zero, List.set_cons_succ])
        refine wpAnyH_take (i := 4) (v := ?vr104x14) rfl (by kernel_rfl) (by kernel_rfl) (by kernel_rfl) (fun _ _ _ h => h) (Or.inl ⟨by kernel_rfl, ?hr104x14⟩) (by assumption) ?rr104x14
        case hr104x14 => (intro w hSw; (try dsimp only at hSw); go_simp; try with_reducible rfl)
        (try simp only [Act.put, List.getElem_toArray, List.getElem_cons_zero, List.getElem_cons_succ, List.setIfInBounds_toArray, List.set_cons_zero, List.set_cons_succ])
        refine wpAnyH_take (i := 5) (v := ?vr105x17) rfl (by kernel_rfl) (by kernel_rfl) (by kernel_rfl) (fun _ _ _ h => h) (Or.inl ⟨by kernel_rfl, ?hr105x17⟩) (by assumption) ?rr105x17
        case hr105x17 => (intro w hSw; (try dsimp only at hSw); go_simp; try with_reducible rfl)
        (try simp only [Act.put, List.getElem_toArray, List.getElem_cons_zero, List.getElem_cons_succ, List.setIfInBounds_toArray, List.set_cons_zero, List.set_cons_succ])
        refine wpAnyH_take (i := 6) (v := ?vr106x20) rfl (by kernel_rfl) (by kernel_rfl) (by kernel_rfl) (fun _ _ _ h => h) (Or.inl ⟨by kernel_rfl, ?hr106x20⟩) (by assumption) ?rr106x20
        case hr106x20 => (intro w hSw; (try dsimp only at hSw); go_simp; try with_reducible rfl)
        (try simp only [Act.put, List.getElem_toArray, List.getElem_cons_zero, List.getElem_cons_succ, List.setIfInBounds_toArray, List.set_cons_zero, List.set_cons_succ])
        refine wpAnyH_take (i := 7) (v := ?vr107x23) rfl (by kernel_rfl) (by kernel_rfl) (by kernel_rfl) (fun _ _ _ h => h) (Or.inl ⟨by kernel_rfl, ?hr107x23⟩) (by assumption) ?rr107x23
        case hr107x23 => (intro w hSw; (try dsimp only at hSw); go_simp; try with_reducible rfl)
        (try simp only [Act.put, List.getElem_toArray, List.getElem_cons_zero, List.getElem_cons_succ, List.setIfInBounds_toArray, List.set_cons_zero, List.set_cons_succ])
        refine wpAnyH_take (i := 8) (v := ?vr108x26) rfl (by kernel_rfl) (by kernel_rfl) (by kernel_rfl) (fun _ _ _ h => h) (Or.inl ⟨by kernel_rfl, ?hr108x26⟩) (by assumption) ?rr108x26
        case hr108x26 => (intro w hSw; (try dsimp only at hSw); go_simp; try with_reducible rfl)
        (try simp only [Act.put, List.getElem_toArray, List.getElem_cons_zero, List.getElem_cons_succ, List.setIfInBounds_toArray, List.set_cons_zero, List.set_cons_succ])
        refine wpAnyH_take (i := 9) (v := ?vr109x29) rfl (by kernel_rfl) (by kernel_rfl) (by kernel_rfl) (fun _ _ _ h => h) (Or.inl ⟨by kernel_rfl, ?hr109x29⟩) (by assumption) ?rr109x29
        case hr109x29 => (intro w hSw; (try dsimp only at hSw); go_simp; try with_reducible rfl)
        (try simp only [Act.put, List.getElem_toArray, List.getElem_cons_zero, List.getElem_cons_succ, List.setIfInBounds_toArray, List.set_cons_zero, List.set_cons_succ])
        refine wpAnyH_take (i := 10) (v := ?vr1010x32) rfl (by kernel_rfl) (by kernel_rfl) (by kernel_rfl) (fun _ _ _ h => h) (Or.inl ⟨by kernel_rfl, ?hr1010x32⟩) (by assumption) ?rr1010x32
        case hr1010x32 => (intro w hSw; (try dsimp only at hSw); go_simp; try with_reducible rfl)
        (try simp only [Act.put, List.getElem_toArray, List.getElem_cons_zero, List.getElem_cons_succ, List.setIfInBounds_toArray, List.set_cons_zero, List.set_cons_succ])
        refine wpAnyH_take (i := 11) (v := ?vr1011x35) rfl (by kernel_rfl) (by kernel_rfl) (by kernel_rfl) (fun _ _ _ h => h) (Or.inl ⟨by kernel_rfl, ?hr1011x35⟩) (by assumption) ?rr1011x35
        case hr1011x35 => (intro w hSw; (try dsimp only at hSw); go_simp; try with_reducible rfl)
        (try simp only [Act.put, List.getElem_toArray, List.getElem_cons_zero, List.getElem_cons_succ, List.setIfInBounds_toArray, List.set_cons_zero, List.set_cons_succ])
        refine wpAnyH_take (i := 12) (v := ?vr1012x38) rfl (by kernel_rfl) (by kernel_rfl) (by kernel_rfl) (fun _ _ _ h => h) (Or.inl ⟨by kernel_rfl, ?hr1012x38⟩) (by assumption) ?rr1012x38
        case hr1012x38 => (intro w hSw; (try dsimp only at hSw); go_simp; try with_reducible rfl)
        (try simp only [Act.put, List.getElem_toArray, List.getElem_cons_zero, List.getElem_cons_succ, List.setIfInBounds_toArray, List.set_cons_zero, List.set_cons_succ])
        refine wpAnyH_take (i := 13) (v := ?vr1013x41) rfl (by kernel_rfl) (by kernel_rfl) (by kernel_rfl) (fun _ _ _ h => h) (Or.inl ⟨by kernel_rfl, ?hr1013x41⟩) (by assumption) ?rr1013x41
        case hr1013x41 => (intro w hSw; (try dsimp only at hSw); go_simp; try with_reducible rfl)
        (try simp only [Act.put, List.getElem_toArray, List.getElem_cons_zero, List.getElem_cons_succ, List.setIfInBounds_toArray, List.set_cons_zero, List.set_cons_succ])
        refine wpAnyH_take (i := 14) (v := ?vr1014x44) rfl (by kernel_rfl) (by kernel_rfl) (by kernel_rfl) (fun _ _ _ h => h) (Or.inl ⟨by kernel_rfl, ?hr1014x44⟩) (by assumption) ?rr1014x44
        case hr1014x44 => (intro w hSw; (try dsimp only at hSw); go_simp; try with_reducible rfl)
        (try simp only [Act.put, List.getElem_toArray, List.getElem_cons_zero, List.getElem_cons_succ, List.setIfInBounds_toArray, List.set_cons_zero, List.set_cons_succ])
        refine wpAnyH_take (i := 15) (v := ?vr1015x47) rfl (by kernel_rfl) (by kernel_rfl) (by kernel_rfl) (fun _ _ _ h => h) (Or.inl ⟨by kernel_rfl, ?hr1015x47⟩) (by assumption) ?rr1015x47
        case hr1015x47 => (intro w hSw; (try dsimp only at hSw); go_simp; try with_reducible rfl)
        (try simp only [Act.put, List.getElem_toArray, List.getElem_cons_zero, List.getElem_cons_succ, List.setIfInBounds_toArray, List.set_cons_zero, List.set_cons_succ])
        refine wpAnyH_take (i := 16) (v := ?vr1016x50) rfl (by kernel_rfl) (by kernel_rfl) (by kernel_rfl) (fun _ _ _ h => h) (Or.inl ⟨by kernel_rfl, ?hr1016x50⟩) (by assumption) ?rr1016x50
        case hr1016x50 => (intro w hSw; (try dsimp only at hSw); go_simp; try with_reducible rfl)
        (try simp only [Act.put, List.getElem_toArray, List.getElem_cons_zero, List.getElem_cons_succ, List.setIfInBounds_toArray, List.set_cons_zero, List.set_cons_succ])
        refine wpAnyH_take (i := 17) (v := ?vr1017x53) rfl (by kernel_rfl) (by kernel_rfl) (by kernel_rfl) (fun _ _ _ h => h) (Or.inl ⟨by kernel_rfl, ?hr1017x53⟩) (by assumption) ?rr1017x53
        case hr1017x53 => (intro w hSw; (try dsimp only at hSw); go_simp; try with_reducible rfl)
        (try simp only [Act.put, List.getElem_toArray, List.getElem_cons_zero, List.getElem_cons_succ, List.setIfInBounds_toArray, List.set_cons_zero, List.set_cons_succ])
        refine wpAnyH_take (i := 18) (v := ?vr1018x56) rfl (by kernel_rfl) (by kernel_rfl) (by kernel_rfl) (fun _ _ _ h => h) (Or.inl ⟨by kernel_rfl, ?hr1018x56⟩) (by assumption) ?rr1018x56
        case hr1018x56 => (intro w hSw; (try dsimp only at hSw); go_simp; try with_reducible rfl)
        (try simp only [Act.put, List.getElem_toArray, List.getElem_cons_zero, List.getElem_cons_succ, List.setIfInBounds_toArray, List.set_cons_zero, List.set_cons_succ])
        refine wpAnyH_take (i := 19) (v := ?vr1019x59) rfl (by kernel_rfl) (by kernel_rfl) (by kernel_rfl) (fun _ _ _ h => h) (Or.inl ⟨by kernel_rfl, ?hr1019x59⟩) (by assumption) ?rr1019x59
        case hr1019x59 => (intro w hSw; (try dsimp only at hSw); go_simp; try with_reducible rfl)
        (try simp only [Act.put, List.getElem_toArray, List.getElem_cons_zero, List.getElem_cons_succ, List.setIfInBounds_toArray, List.set_cons_zero, List.set_cons_succ])
        refine wpAnyH_ready (rs := [20]) (by kernel_rfl) (by simp) ?_
        refine AllReadyH.cons rfl (fun K hK => ?_) AllReadyH.nil
        go_simp
        refine hK.out _ _ ?_ (fun hHeld => ?_)
        · (try dsimp only); (refine HQ0.out _ ?_; ((with_reducible repeat' (first | assumption | refine Gr.drew ?_ | refine Gr.alloc ?_ _ | refine Gr.set ?_ (by first | omega | (simp; omega)) _ _ | exact Gr.refl _)); done))
        clear hK K
        refine wpAnyH_ready (rs := [21]) (by kernel_rfl) (by simp) ?_
        refine AllReadyH.cons rfl (fun K hK => ?_) AllReadyH.nil
        go_simp
        refine hK.out _ _ ?_ (fun hHeld => ?_)
        · (try dsimp only); (refine HQ0.out _ ?_; ((with_reducible repeat' (first | assumption | refine Gr.drew ?_ | refine Gr.alloc ?_ _ | refine Gr.set ?_ (by first | omega | (simp; omega)) _ _ | exact Gr.refl _)); done))
        clear hK K
        refine wpAnyH_take (i := 22) (v := ?vr1022x74) rfl (by kernel_rfl) (by kernel_rfl) (by kernel_rfl) (fun _ _ _ h => h) (Or.inl ⟨by kernel_rfl, ?hr1022x74⟩) (by assumption) ?rr1022x74
        case hr1022x74 => (intro w hSw; (try dsimp only at hSw); go_simp; try with_reducible rfl)
        (try simp only [Act.put, List.getElem_toArray, List.getElem_cons_zero, List.getElem_cons_succ, List.setIfInBounds_toArray, List.set_cons_zero, List.set_cons_succ])
        refine wpAnyH_done (by kernel_rfl) ?_ _
        have FK : At (w7.alloc (.cells #[.int .i64 (p1 : Int), .int .i64 (p2 : Int)] 62)).drew w7.heap.size [.int .i64 (p1 : Int), .int .i64 (p2 : Int)] := (At.new2 _ _ _ _).drew
        have EK := E.out.more (w' := (w7.alloc (.cells #[.int .i64 (p1 : Int), .int .i64 (p2 : Int)] 62)).drew) ((Below.refl _ _).alloc (Nat.le_refl _) _).drew
        generalize hKB : w7.heap.size = KB at *
        generalize (w7.alloc (.cells #[.int .i64 (p1 : Int), .int .i64 (p2 : Int)] 62)).drew = w8 at *
        obtain ⟨D, hm, hd⟩ := EK.m
        have hon := EK.on
        obtain ⟨x, hx, hlook⟩ := pm_look hm hd Hv.out.1
        dsimp only [av] at hlook
        have hml : 100000 ≤ maxLen := by decide
        obtain ⟨w9, D', hst, hm9, hd9, hg9⟩ := pm_store hm hd Hv.out.1 (by have := HPn.out; have := HkK.out; omega) Hv.out.2
        dsimp only [av] at hst
        obtain ⟨k0, k1⟩ := FK.c2
        have HKeep : Hid (stM m n l (msF m n l (P.take k)) ((c : Int), o) = msF m n l (P.take k) → QM m n l w5 w8 M (k + 1) P) := fun h => ⟨⟨D, hm.mono (by omega), by rw [HSn.out, h]; exact hd⟩, hon⟩
        have HPut : Hid (stM m n l (msF m n l (P.take k)) ((c : Int), o) = (fun q => if q = (p1, p2) then some v else msF m n l (P.take k) q) → QM m n l w5 w9 M (k + 1) P) := fun h => ⟨⟨D', hm9, by rw [HSn.out, h]; exact hd9⟩, hon.trans hg9⟩
        clear hm hd hm9 hd9 hg9 hon EK hKB FK FP HQ0 G7 E HSn hml
        cases hF : msF m n l (P.take k) (p1, p2) with
        | none =>
          have HZ := hidb (HPut.out (Hst2'.out (fun u hu => by rw [hF] at hu; cases hu)))
          rw [hF] at hlook
          clear HKeep HPut Hst2' Hst3' hF hx
          go_wp2
          go_roundw
          case rel => exact ⟨k + 1, HkK.out, by go_num, HZ⟩
          case measure => have := HkK.out; simp [intOf]; omega
        | some u =>
          obtain rfl := hx u hF
          rw [hF] at hlook
          by_cases hvu : v < x
          · have HZ := hidb (HPut.out (Hst2'.out (fun u hu => by rw [hF] at hu; rw [← Option.some.inj hu]; exact hvu)))
            clear HKeep HPut Hst2' Hst3' hF hx
            go_wp2
            go_roundw
            case rel => exact ⟨k + 1, HkK.out, by go_num, HZ⟩
            case measure => have := HkK.out; simp [intOf]; omega
          · have HZ := hidb (HKeep.out (Hst3'.out x hF hvu))
            clear HKeep HPut Hst2' Hst3' hF hx
            go_wp2
            go_roundw
            case rel => exact ⟨k + 1, HkK.out, by go_num, HZ⟩
            case measure => have := HkK.out; simp [intOf]; omega
end Go.Proofs.YtddnebgnohlchaaGreatDoor
