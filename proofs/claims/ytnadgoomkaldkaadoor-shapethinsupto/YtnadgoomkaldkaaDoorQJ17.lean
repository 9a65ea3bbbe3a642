/-
  ShapeThins: the law's ways, where there is an error.; ShapeThins: the law where the map is right and is made thinner.; ShapeThins: the law.
-/
import Derived.Test.YtnadgoomkaldkaaDoorQTk
import Derived.Test.YtnadgoomkaldkaaDoorQJ16
import Derived.Test.YtnadgoomkaldkaaDoorQJ20
import Derived.Test.YtnadgoomkaldkaaDoorQJ15
import Derived.Test.YtnadgoomkaldkaaDoorQJ18
namespace Go.Proofs.YtnadgoomkaldkaaDoor
open Go.RowKit
attribute [local go_sem ↓] Go.wp_at_zero Go.wp_at_succ

theorem LLd.nil (w : World) : LLd w none 0 0 0 [] := ⟨fun i hi => absurd hi (by simp), fun k hk => absurd hk (by simp)⟩
/-- Thin, where the map is right. -/
theorem thin_all (g : Nat → Addr) {ad : Option Addr} {b o cap : Nat} {Ls : List (List Sp)} {most : Int} (hc : mcd Ls = 0) (hm : 0 ≤ most) (w : World) (h : LLd w ad b o cap Ls) (hl : Laid w g) : Calls Tryd.prog 18 #[.agg #[.slice ad Ls.length cap], .int .i64 most] w fun e w' => ∃ ad' b' cap' Ls', e = .returned (.tuple #[.agg #[.slice ad' Ls.length cap'], .nilIface]) ∧ LLd w' ad' b' 0 cap' Ls' ∧ mcd Ls' = 0 ∧ Ls'.length = Ls.length ∧ Pth most ⟨Ls, 0, 1, false⟩ ⟨Ls', Ls.length, 1, false⟩ ∧ Gr w w' := by
  by_cases h0 : 0 < Ls.length
  · exact thin_ok g hc hm h0 w h hl
  · obtain rfl : Ls = [] := List.length_eq_zero_iff.1 (by omega)
    refine (thin_nil g hc hm w h hl).mono ?_
    rintro e w' ⟨rfl, hB⟩
    exact ⟨none, 0, 0, [], rfl, LLd.nil _, hc, rfl, .refl _, hB⟩
theorem thin_wrong (g : Nat → Addr) {ad : Option Addr} {b o cap : Nat} {Ls : List (List Sp)} (most : Int) (hc : ¬ mcd Ls = 0) (hlen : Ls.flatten.length ≤ 5000) (w : World) (h : LLd w ad b o cap Ls) (hl : Laid w g) : Calls Tryd.prog 18 #[.agg #[.slice ad Ls.length cap], .int .i64 most] w fun e w' => e = .returned (.tuple #[.agg #[.slice none 0 0], ev g (mcd Ls)]) ∧ Gr w w' := by
  by_cases c : Ls.length ≤ 60
  · exact thin_bad g most hc c hlen w h hl
  · rw [mcd_2 (.inl (by omega))]
    exact thin_many g most (by omega) w hl
theorem sthins_no (g : Nat → Addr) (v : Value) (most : Int) (w : World) (hl : Laid w g) (hf : ∀ W, Gr w W → Calls Tryd.prog 7 #[v] W fun e w' => e = .returned (.bool false) ∧ Gr W w') : Calls Tryd.prog 4 #[v, .int .i64 most] w fun e w' => e = .returned (.bool true) ∧ Gr w w' := by
  have HM := hidb (mapped_any g w hl)
  have HF := hidb hf
  clear hl hf
  go_enter Tryd.func4, Tryd.ntmps4
  go_wp2_with fail
  refine HM.out.mono ?_
  rintro e w1 ⟨rfl, hB⟩
  have E := hidb hB
  clear hB HM
  go_wp2_with fail
  refine (HF.out _ E.out).mono ?_
  rintro e w2 ⟨rfl, hB⟩
  replace E := hidb (Gr.step E.out hB.out)
  clear hB HF
  go_wp2
  go_ret
  exact ⟨rfl, E.out⟩
set_option maxRecDepth 4000 in
set_option maxHeartbeats 8000000 in
theorem sthins_bad (g : Nat → Addr) {pb po : Nat} {ad : Option Addr} {b o cap : Nat} {Ls : List (List Sp)} {most : Int} (hN : Ls.length ≤ 3000000) (hlen : Ls.flatten.length ≤ 5000) (hf : fewK Ls = true) (hc : ¬ mcd Ls = 0) (w : World) (hl : Laid w g) (hp : w.cell? ⟨pb, po, none⟩ = some (.slice ad Ls.length cap) ∧ pb < w.heap.size) (h : LLd w ad b o cap Ls) : Calls Tryd.prog 4 #[.pointer (some ⟨pb, po, none⟩), .int .i64 most] w fun e w' => e = .returned (.bool true) ∧ Gr w w' := by
  have hpG : ∀ W, Gr w W → W.cell? ⟨pb, po, none⟩ = some (.slice ad Ls.length cap) ∧ pb < W.heap.size := fun W hG => ⟨(hG.out.cell (p := ⟨pb, po, none⟩) hp.2).trans hp.1, Nat.lt_of_lt_of_le hp.2 hG.out.size⟩
  have HM := hidb (mapped_any g w hl)
  have HF := hidb (fun W (hG : Gr w W) => fewArcs_any hN (by omega) W (hpG W hG) (h.ll.below hG.out))
  rw [hf] at HF
  have HE := hidb (fun W (hG : Gr w W) => mapError_any (by omega) hlen W (hpG W hG) (h.ll.below hG.out))
  have HD := hidb (fun W (hG : Gr w W) => drawn_any hN (fun i hi => by have := len_le hi; omega) W (hpG W hG) (h.below hG.out))
  have HT := hidb (fun W a1 b1 c1 (hL : LLd W a1 b1 0 c1 Ls) (hG : Gr w W) => thin_wrong g most hc hlen W hL (hl.gr hG))
  have HC := hidb (fun W (hG : Gr w W) => coded_ev g (mcd Ls) (mcd_le Ls) W (hl.gr hG))
  have hc1 : ¬ (mcd Ls : Int) = 0 := by omega
  have hc2 : (0 : Int) < (mcd Ls : Int) := by omega
  generalize ev g (mcd Ls) = EV at *
  generalize (mcd Ls : Int) = c at *
  generalize Ls.length = N at *
  clear hN hlen hf hc hl hp h hpG
  go_enter Tryd.func4, Tryd.ntmps4
  go_wp2_with fail
  refine HM.out.mono ?_
  rintro e w1 ⟨rfl, hB⟩
  have E := hidb hB
  clear hB HM
  go_wp2_with fail
  refine (HF.out _ E.out).mono ?_
  rintro e w2 ⟨rfl, hB⟩
  replace E := hidb (Gr.step E.out hB.out)
  clear hB HF
  go_wp2_with fail
  refine (HD.out _ E.out).mono ?_
  rintro e w4 ⟨a1, b1, c1, rfl, hL, hB⟩
  replace E := hidb (Gr.step E.out hB.out)
  clear hB
  go_wp2_with fail
  refine (HT.out _ _ _ _ hL E.out).mono ?_
  rintro e w5 ⟨rfl, hB⟩
  replace E := hidb (Gr.step E.out hB.out)
  clear hB hL
  have BX : Hid (PF1 w (w5.alloc (.cells #[.slice none 0 0] 32)) w5.heap.size [.slice none 0 0]) := ⟨At.new1 _ _ _, E.out.alloc _⟩
  go_wp2_with fail
  refine (HE.out _ BX.out.gr).mono ?_
  rintro e w6 ⟨rfl, hB⟩
  replace BX := hidb (BX.out.below hB.out)
  have z1 := BX.out.a.c1
  generalize w5.heap.size = TB at *
  clear hB HE E
  go_wp2_with (go_at_call 9; refine (HC.out _ BX.out.gr).mono ?_; rintro e w7 ⟨rfl, hB⟩; replace BX := hidb (BX.out.below hB.out); clear hB z1; have z1 := BX.out.a.c1)
  go_ret
  exact ⟨rfl, BX.out.gr⟩
set_option maxRecDepth 4000 in
set_option maxHeartbeats 8000000 in
theorem sthins_neg (g : Nat → Addr) {pb po : Nat} {ad : Option Addr} {b o cap : Nat} {Ls : List (List Sp)} {most : Int} (hN : Ls.length ≤ 3000000) (hlen : Ls.flatten.length ≤ 5000) (hf : fewK Ls = true) (hc : mcd Ls = 0) (hm : most < 0) (w : World) (hl : Laid w g) (hp : w.cell? ⟨pb, po, none⟩ = some (.slice ad Ls.length cap) ∧ pb < w.heap.size) (h : LLd w ad b o cap Ls) : Calls Tryd.prog 4 #[.pointer (some ⟨pb, po, none⟩), .int .i64 most] w fun e w' => e = .returned (.bool true) ∧ Gr w w' := by
  have hpG : ∀ W, Gr w W → W.cell? ⟨pb, po, none⟩ = some (.slice ad Ls.length cap) ∧ pb < W.heap.size := fun W hG => ⟨(hG.out.cell (p := ⟨pb, po, none⟩) hp.2).trans hp.1, Nat.lt_of_lt_of_le hp.2 hG.out.size⟩
  have HM := hidb (mapped_any g w hl)
  have HF := hidb (fun W (hG : Gr w W) => fewArcs_any hN (by omega) W (hpG W hG) (h.ll.below hG.out))
  rw [hf] at HF
  have HE := hidb (fun W (hG : Gr w W) => mapError_any (by omega) hlen W (hpG W hG) (h.ll.below hG.out))
  have HD := hidb (fun W (hG : Gr w W) => drawn_any hN (fun i hi => by have := len_le hi; omega) W (hpG W hG) (h.below hG.out))
  have HT := hidb (fun W a1 b1 c1 (hL : LLd W a1 b1 0 c1 Ls) (hG : Gr w W) => thin_neg g hc hm W hL (hl.gr hG))
  have HC := hidb (fun W (hG : Gr w W) => coded_ev g 3 (by omega) W (hl.gr hG))
  rw [show ev g 3 = errV g 2 from rfl] at HC
  rw [hc] at HE
  push_cast at HE HC
  generalize errV g 2 = EV at *
  generalize Ls.length = N at *
  clear hN hlen hf hc hl hp h hpG
  go_enter Tryd.func4, Tryd.ntmps4
  go_wp2_with fail
  refine HM.out.mono ?_
  rintro e w1 ⟨rfl, hB⟩
  have E := hidb hB
  clear hB HM
  go_wp2_with fail
  refine (HF.out _ E.out).mono ?_
  rintro e w2 ⟨rfl, hB⟩
  replace E := hidb (Gr.step E.out hB.out)
  clear hB HF
  go_wp2_with fail
  refine (HD.out _ E.out).mono ?_
  rintro e w4 ⟨a1, b1, c1, rfl, hL, hB⟩
  replace E := hidb (Gr.step E.out hB.out)
  clear hB
  go_wp2_with fail
  refine (HT.out _ _ _ _ hL E.out).mono ?_
  rintro e w5 ⟨rfl, hB⟩
  replace E := hidb (Gr.step E.out hB.out)
  clear hB hL
  have BX : Hid (PF1 w (w5.alloc (.cells #[.slice none 0 0] 32)) w5.heap.size [.slice none 0 0]) := ⟨At.new1 _ _ _, E.out.alloc _⟩
  go_wp2_with fail
  refine (HE.out _ BX.out.gr).mono ?_
  rintro e w6 ⟨rfl, hB⟩
  replace BX := hidb (BX.out.below hB.out)
  have z1 := BX.out.a.c1
  generalize w5.heap.size = TB at *
  clear hB HE E
  go_wp2_with (go_at_call 9; refine (HC.out _ BX.out.gr).mono ?_; rintro e w7 ⟨rfl, hB⟩; replace BX := hidb (BX.out.below hB.out); clear hB z1; have z1 := BX.out.a.c1)
  go_ret
  exact ⟨rfl, BX.out.gr⟩
end Go.Proofs.YtnadgoomkaldkaaDoor
namespace Go.Proofs.YtnadgoomkaldkaaDoor
open Go.RowKit
attribute [local go_sem ↓] Go.wp_at_zero Go.wp_at_succ

set_option maxRecDepth 4000 in
set_option maxHeartbeats 8000000 in
theorem sthins_ok (g : Nat → Addr) {pb po : Nat} {ad : Option Addr} {b o cap : Nat} {Ls : List (List Sp)} {most : Int} (hf : fewK Ls = true) (hc : mcd Ls = 0) (hm : 0 ≤ most) (hm1 : most ≤ 9223372036854775807) (w : World) (hl : Laid w g) (hp : w.cell? ⟨pb, po, none⟩ = some (.slice ad Ls.length cap) ∧ pb < w.heap.size) (h : LLd w ad b o cap Ls) : Calls Tryd.prog 4 #[.pointer (some ⟨pb, po, none⟩), .int .i64 most] w fun e w' => e = .returned (.bool true) ∧ Gr w w' := by
  obtain ⟨hN, hlen, -, -, -⟩ := mcd_ok hc
  have hpG : ∀ W, Gr w W → W.cell? ⟨pb, po, none⟩ = some (.slice ad Ls.length cap) ∧ pb < W.heap.size := fun W hG => ⟨(hG.out.cell (p := ⟨pb, po, none⟩) hp.2).trans hp.1, Nat.lt_of_lt_of_le hp.2 hG.out.size⟩
  have HM := hidb (mapped_any g w hl)
  have HF := hidb (fun W (hG : Gr w W) => fewArcs_any (by omega) (by omega) W (hpG W hG) (h.ll.below hG.out))
  rw [hf] at HF
  have HE := hidb (fun W (hG : Gr w W) => mapError_any (by omega) (by omega) W (hpG W hG) (h.ll.below hG.out))
  rw [hc] at HE
  have HD := hidb (fun W (hG : Gr w W) => drawn_any (by omega) (fun i hi => by have := len_le hi; omega) W (hpG W hG) (h.below hG.out))
  have HT := hidb (fun W a1 b1 c1 (hL : LLd W a1 b1 0 c1 Ls) (hG : Gr w W) => thin_all g hc hm W hL (hl.gr hG))
  have HR := hidb (fun W (hG : Gr w W) => thinner_any hm hm1 hc W (hpG W hG) (h.below hG.out))
  have HS : Hid (∀ W W0 ad1 b1 c1 pb2 po2 ad2 b2 o2 c2 Ls1 Ls2, LLd W ad1 b1 0 c1 Ls1 → mcd Ls1 = 0 → Ls1.length = Ls.length → Pth most ⟨Ls, 0, 1, false⟩ ⟨Ls1, Ls.length, 1, false⟩ → MP W0 W pb2 po2 ad2 b2 o2 c2 Ls2 → Ls2.length = Ls.length → Pth most ⟨Ls, 0, 1, false⟩ ⟨Ls2, Ls.length, 1, false⟩ → Calls Tryd.prog 19 #[.agg #[.slice ad1 Ls.length c1], .pointer (some ⟨pb2, po2, none⟩)] W fun e w' => e = .returned (.bool true) ∧ Gr W w') := fun W W0 ad1 b1 c1 pb2 po2 ad2 b2 o2 c2 Ls1 Ls2 hL q1 q2 q3 hM q4 q5 => by
    have hE := Pth.one q3 q5 ⟨by simp [q2], rfl⟩ ⟨by simp [q4], rfl⟩
    obtain ⟨hE, -⟩ := ThS.mk.inj hE
    subst hE
    obtain ⟨r1, r2, -, -, -⟩ := mcd_ok q1
    rw [← q2]
    exact sameArcs_any r1 (by omega) W ⟨hM.c, hM.l⟩ hL.ll hM.d.ll
  push_cast at HE
  have hm' : ¬ most < 0 := by omega
  generalize (⟨Ls, 0, 1, false⟩ : ThS) = s0 at *
  generalize Ls.length = N at *
  clear hN hlen hf hc hl hp h hpG hm hm1
  go_enter Tryd.func4, Tryd.ntmps4
  go_wp2_with fail
  refine HM.out.mono ?_
  rintro e w1 ⟨rfl, hB⟩
  have E := hidb hB
  clear hB HM
  go_wp2_with fail
  refine (HF.out _ E.out).mono ?_
  rintro e w2 ⟨rfl, hB⟩
  replace E := hidb (Gr.step E.out hB.out)
  clear hB HF
  go_wp2_with fail
  refine (HD.out _ E.out).mono ?_
  rintro e w4 ⟨a1, b1, c1, rfl, hL, hB⟩
  replace E := hidb (Gr.step E.out hB.out)
  clear hB
  go_wp2_with fail
  refine (HT.out _ _ _ _ hL E.out).mono ?_
  rintro e w5 ⟨ad', b', cap', Ls', rfl, hL', q1, q2, q3, hB⟩
  replace E := hidb (Gr.step E.out hB.out)
  have HQ := hidb (And.intro q1 (And.intro q2 q3))
  have HL := hidb hL'
  clear hB hL hL' q1 q2 q3
  have BX : Hid (PF1 w (w5.alloc (.cells #[.slice ad' N cap'] 32)) w5.heap.size [.slice ad' N cap']) := ⟨At.new1 _ _ _, E.out.alloc _⟩
  have HL2 := hidb (HL.out.below ((Below.refl _ _).alloc (Nat.le_refl _) (.cells #[.slice ad' N cap'] 32)))
  go_wp2_with fail
  refine (HE.out _ BX.out.gr).mono ?_
  rintro e w6 ⟨rfl, hB⟩
  replace BX := hidb (BX.out.below hB.out)
  replace HL2 := hidb (HL2.out.below hB.out)
  generalize w5.heap.size = TB at *
  clear hB HE E HL
  go_upto_region 11 with fail
  refine wp_region_held_drew (S := (fun w' => w'.cell? ⟨TB, 0, none⟩ = some (.slice ad' N cap'))) (by kernel_rfl) ?_ (fun hHeld => ?_)
  · (try dsimp only); exact BX.out.a.drew.c1
  replace BX := hidb (show PF1 _ w6.drew _ _ from ⟨BX.out.a.drew, BX.out.gr.drew⟩)
  replace HL2 := hidb (HL2.out.below (Gr.refl w6).drew.out)
  generalize w6.drew = V0 at *
  refine wt (i := 0) (v := ?vt11q0x5) rfl ?ht11q0x5 ?rt11q0x5
  case ht11q0x5 => (intro w hSw; (try dsimp only at hSw); have x1 := hSw; go_simp; try with_reducible rfl)
  (try simp only [Act.put, lq1, lq2, lq4, lq5, lq6])
  refine wt (i := 1) (v := ?vt11q1x8) rfl ?ht11q1x8 ?rt11q1x8
  case ht11q1x8 => (intro w hSw; (try dsimp only at hSw); have x1 := hSw; go_simp; try with_reducible rfl)
  (try simp only [Act.put, lq1, lq2, lq3, lq4, lq5, lq6])
  refine wt (i := 2) (v := ?vt11q2x11) rfl ?ht11q2x11 ?rt11q2x11
  case ht11q2x11 => (intro w hSw; (try dsimp only at hSw); have x1 := hSw; go_simp; try with_reducible rfl)
  (try simp only [Act.put, lq1, lq2, lq3, lq4, lq5, lq6])
  refine wt (i := 3) (v := ?vt11q3x14) rfl ?ht11q3x14 ?rt11q3x14
  case ht11q3x14 => (intro w hSw; (try dsimp only at hSw); have x1 := hSw; go_simp; try with_reducible rfl)
  (try simp only [Act.put, lq1, lq2, lq3, lq4, lq5, lq6])
  refine wt (i := 4) (v := ?vt11q4x17) rfl ?ht11q4x17 ?rt11q4x17
  case ht11q4x17 => (intro w hSw; (try dsimp only at hSw); have x1 := hSw; go_simp; try with_reducible rfl)
  (try simp only [Act.put, lq1, lq2, lq3, lq4, lq5, lq6])
  refine wt (i := 5) (v := ?vt11q5x20) rfl ?ht11q5x20 ?rt11q5x20
  case ht11q5x20 => (intro w hSw; (try dsimp only at hSw); have x1 := hSw; go_simp; try with_reducible rfl)
  (try simp only [Act.put, lq1, lq2, lq3, lq4, lq5, lq6])
  refine wpAnyH_ready (rs := [6]) (by kernel_rfl) (by simp) ?_
  refine AllReadyH.cons rfl (fun K hK => ?_) AllReadyH.nil
  go_simp
  go_wp2_with (go_at_call 20; refine (HR.out _ BX.out.gr).mono ?_; rintro e V1 ⟨pb2, po2, ad2, b2, o2, c2, Ls2, rfl, hM, -, r2, r3⟩)
  refine hK.out _ _ ?_ (fun hHeld => ?_)
  · (try dsimp only); exact (BX.out.below hM.g.out).a.c1
  clear hK K
  replace BX := hidb (BX.out.below hM.g.out)
  replace HL2 := hidb (HL2.out.below hM.g.out)
  have HM2 := hidb hM
  have HQ2 := hidb (And.intro r2 r3)
  clear hM r2 r3
  refine wpAnyH_ready (rs := [7]) (by kernel_rfl) (by simp) ?_
  refine AllReadyH.cons rfl (fun K hK => ?_) AllReadyH.nil
  go_simp
  go_wp2_with (go_at_call 19; refine (HS.out _ _ _ _ _ _ _ _ _ _ _ _ _ HL2.out HQ.out.1 HQ.out.2.1 HQ.out.2.2 HM2.out HQ2.out.1 HQ2.out.2).mono ?_; rintro e V2 ⟨rfl, hB⟩)
  refine hK.out _ _ ?_ (fun hHeld => ?_)
  · (try dsimp only); exact (BX.out.below hB.out).a.c1
  clear hK K
  replace BX := hidb (BX.out.below hB.out)
  clear hB
  refine wt (i := 8) (v := ?vt11q8x44) rfl ?ht11q8x44 ?rt11q8x44
  case ht11q8x44 => (intro w hSw; (try dsimp only at hSw); have x1 := hSw; go_simp; try with_reducible rfl)
  (try simp only [Act.put, lq1, lq2, lq3, lq4, lq5, lq6])
  refine wt (i := 9) (v := ?vt11q9x47) rfl ?ht11q9x47 ?rt11q9x47
  case ht11q9x47 => (intro w hSw; (try dsimp only at hSw); have x1 := hSw; go_simp; try with_reducible rfl)
  (try simp only [Act.put, lq1, lq2, lq3, lq4, lq5, lq6])
  refine wpAnyH_done (by kernel_rfl) ?_ _
  go_wp2_with fail
  go_ret
  exact ⟨rfl, BX.out.gr⟩
end Go.Proofs.YtnadgoomkaldkaaDoor
namespace Go.Proofs.YtnadgoomkaldkaaDoor
open Go.RowKit

theorem shapeThins_law (g : Nat → Addr) (a : Option Addr) (n : Int) {B : Nat} (W : World) (hl : Laid W g) (hk : B ≤ 1048576) (hm : MArg W a B) (hw : -9223372036854775808 ≤ n ∧ n ≤ 9223372036854775807) : Calls Tryd.prog 4 #[.pointer a, .int .i64 n] W fun e w' => e = .returned (.bool true) ∧ Gr W w' := by
  rcases hm with rfl | ⟨pb, po, sd, b, o, cap, Ls, rfl, hp, hL, h1, h2⟩
  · exact sthins_no g _ n W hl (fun W' _ => fewArcs_nil W')
  · by_cases hf : fewK Ls = true
    · have h3 : Ls.flatten.length ≤ 5000 := by
        have := of_decide_eq_true hf
        omega
      by_cases hc : mcd Ls = 0
      · by_cases hn : n < 0
        · exact sthins_neg g (by omega) h3 hf hc hn W hl hp hL
        · exact sthins_ok g hf hc (by omega) hw.2 W hl hp hL
      · exact sthins_bad g (by omega) h3 hf hc W hl hp hL
    · refine sthins_no g _ n W hl (fun W' hG => ?_)
      have := fewArcs_any (Ls := Ls) (by omega) (by omega) W' ⟨(hG.out.cell (p := ⟨pb, po, none⟩) hp.2).trans hp.1, Nat.lt_of_lt_of_le hp.2 hG.out.size⟩ (hL.ll.below hG.out)
      rw [show fewK Ls = false by simpa using hf] at this
      exact this
end Go.Proofs.YtnadgoomkaldkaaDoor
