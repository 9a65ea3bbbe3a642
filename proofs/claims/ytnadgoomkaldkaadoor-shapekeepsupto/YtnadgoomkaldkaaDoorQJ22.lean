/-
  ShapeKeeps: what Thin keeps; the law's ways that look at nothing.; ShapeKeeps: the law where the map is right.; ShapeKeeps: the law.
-/
import Derived.Test.YtnadgoomkaldkaaDoorQTk
import Derived.Test.YtnadgoomkaldkaaDoorQJ17
import Derived.Test.YtnadgoomkaldkaaDoorQJ20
import Derived.Test.YtnadgoomkaldkaaDoorQJ18
namespace Go.Proofs.YtnadgoomkaldkaaDoor
open Go.RowKit
attribute [local go_sem ↓] Go.wp_at_zero Go.wp_at_succ

/-- A map that was made thinner. -/
structure KpT (most : Int) (Ls L : List (List Sp)) : Prop where
  m : mcd L = 0
  n : L.length = Ls.length
  ro : roP L = roP Ls
  e : ∀ j, j < Ls.length → (lx L j).length ≤ (lx Ls j).length ∧ sx (lx L j) 0 = sx (lx Ls j) 0 ∧ sx (lx L j) ((lx L j).length - 1) = sx (lx Ls j) ((lx Ls j).length - 1)
  st : Pth most ⟨L, 0, 1, false⟩ ⟨L, L.length, 1, false⟩
theorem thin_keeps (g : Nat → Addr) {ad : Option Addr} {b o cap : Nat} {Ls : List (List Sp)} {most : Int} (hc : mcd Ls = 0) (hm : 0 ≤ most) (w : World) (h : LLd w ad b o cap Ls) (hl : Lc w g) : Calls Tryd.prog 18 #[.agg #[.slice ad Ls.length cap], .int .i64 most] w fun e w' => ∃ ad' b' cap' L, e = .returned (.tuple #[.agg #[.slice ad' Ls.length cap'], .nilIface]) ∧ LLd w' ad' b' 0 cap' L ∧ KpT most Ls L ∧ Gr w w' := by
  refine (thin_all g hc hm w h hl).mono ?_
  rintro e w' ⟨ad', b', cap', L, rfl, h1, h2, h3, h4, h5⟩
  have k := KpI.go hc h4
  exact ⟨ad', b', cap', L, rfl, h1, ⟨h2, h3, k.ro, k.e, by rw [h3]; exact k.st rfl⟩, h5⟩
theorem thin_again (g : Nat → Addr) {ad : Option Addr} {b o cap : Nat} {Ls L : List (List Sp)} {most : Int} (hm : 0 ≤ most) (w : World) (h : LLd w ad b o cap L) (hk : KpT most Ls L) (hl : Lc w g) : Calls Tryd.prog 18 #[.agg #[.slice ad Ls.length cap], .int .i64 most] w fun e w' => ∃ ad' b' cap', e = .returned (.tuple #[.agg #[.slice ad' Ls.length cap'], .nilIface]) ∧ LLd w' ad' b' 0 cap' L ∧ Gr w w' := by
  rw [← hk.n]
  refine (thin_all g hk.m hm w h hl).mono ?_
  rintro e w' ⟨ad', b', cap', L2, rfl, h1, h2, h3, h4, h5⟩
  have hE := Pth.one h4 hk.st ⟨by simp [h3], rfl⟩ ⟨by simp, rfl⟩
  obtain ⟨hE, -⟩ := ThS.mk.inj hE
  subst hE
  exact ⟨ad', b', cap', rfl, h1, h5⟩
set_option maxRecDepth 4000 in
theorem skeeps_no (g : Nat → Addr) (v : Value) (most : Int) (w : World) (hl : Lc w g) (hf : ∀ W, Gr w W → Calls Tryd.prog 7 #[v] W fun e w' => e = .returned (.bool false) ∧ Gr W w') : Calls Tryd.prog 5 #[v, .int .i64 most] w fun e w' => e = .returned (.bool true) ∧ Gr w w' := by
  have HM := hidb (mapped_any g w hl)
  have HF := hidb hf
  clear hl hf
  go_enter Tryd.func5, Tryd.ntmps5
  go_wp2_with fail
  refine HM.out.mono ?_
  rintro e w1 ⟨rfl, hB⟩
  have E := hidb hB
  clear hB HM
  go_wp2_with fail
  refine (HF.out _ E.out).mono ?_
  rintro e w2 ⟨rfl, hB⟩
  replace E := hidb (Gr.step E.out hB.out)
  clear hB HF
  go_wp2
  go_ret
  exact ⟨rfl, E.out⟩
set_option maxRecDepth 4000 in
theorem skeeps_bad (g : Nat → Addr) {pb po : Nat} {ad : Option Addr} {b o cap : Nat} {Ls : List (List Sp)} {most : Int} (hN : Ls.length ≤ 3000000) (hlen : Ls.flatten.length ≤ 5000) (hf : fewK Ls = true) (hc : ¬ mcd Ls = 0) (w : World) (hl : Lc w g) (hp : w.cell? ⟨pb, po, none⟩ = some (.slice ad Ls.length cap) ∧ pb < w.heap.size) (h : LLd w ad b o cap Ls) : Calls Tryd.prog 5 #[.pointer (some ⟨pb, po, none⟩), .int .i64 most] w fun e w' => e = .returned (.bool true) ∧ Gr w w' := by
  have hpG : ∀ W, Gr w W → W.cell? ⟨pb, po, none⟩ = some (.slice ad Ls.length cap) ∧ pb < W.heap.size := fun W hG => ⟨(hG.out.cell (p := ⟨pb, po, none⟩) hp.2).trans hp.1, Nat.lt_of_lt_of_le hp.2 hG.out.size⟩
  have HM := hidb (mapped_any g w hl)
  have HF := hidb (fun W (hG : Gr w W) => fewArcs_any hN (by omega) W (hpG W hG) (h.ll.below hG.out))
  rw [hf] at HF
  have HE := hidb (fun W (hG : Gr w W) => mapError_any (by omega) hlen W (hpG W hG) (h.ll.below hG.out))
  have hc2 : (0 : Int) < (mcd Ls : Int) := by omega
  generalize (mcd Ls : Int) = c at *
  generalize Ls.length = N at *
  clear hN hlen hf hc hl hp h hpG
  go_enter Tryd.func5, Tryd.ntmps5
  go_wp2_with fail
  refine HM.out.mono ?_
  rintro e w1 ⟨rfl, hB⟩
  have E := hidb hB
  clear hB HM
  go_wp2_with fail
  refine (HF.out _ E.out).mono ?_
  rintro e w2 ⟨rfl, hB⟩
  replace E := hidb (Gr.step E.out hB.out)
  clear hB HF
  go_wp2_with (go_at_call 8; refine (HE.out _ E.out).mono ?_; rintro e w3 ⟨rfl, hB⟩; replace E := hidb (Gr.step E.out hB.out); clear hB)
  go_ret
  exact ⟨rfl, E.out⟩
set_option maxRecDepth 4000 in
theorem skeeps_neg (g : Nat → Addr) {pb po : Nat} {ad : Option Addr} {b o cap : Nat} {Ls : List (List Sp)} {most : Int} (hN : Ls.length ≤ 3000000) (hlen : Ls.flatten.length ≤ 5000) (hf : fewK Ls = true) (hc : mcd Ls = 0) (hm : most < 0) (w : World) (hl : Lc w g) (hp : w.cell? ⟨pb, po, none⟩ = some (.slice ad Ls.length cap) ∧ pb < w.heap.size) (h : LLd w ad b o cap Ls) : Calls Tryd.prog 5 #[.pointer (some ⟨pb, po, none⟩), .int .i64 most] w fun e w' => e = .returned (.bool true) ∧ Gr w w' := by
  have hpG : ∀ W, Gr w W → W.cell? ⟨pb, po, none⟩ = some (.slice ad Ls.length cap) ∧ pb < W.heap.size := fun W hG => ⟨(hG.out.cell (p := ⟨pb, po, none⟩) hp.2).trans hp.1, Nat.lt_of_lt_of_le hp.2 hG.out.size⟩
  have HM := hidb (mapped_any g w hl)
  have HF := hidb (fun W (hG : Gr w W) => fewArcs_any hN (by omega) W (hpG W hG) (h.ll.below hG.out))
  rw [hf] at HF
  have HE := hidb (fun W (hG : Gr w W) => mapError_any (by omega) hlen W (hpG W hG) (h.ll.below hG.out))
  rw [hc] at HE
  push_cast at HE
  generalize Ls.length = N at *
  clear hN hlen hf hc hl hp h hpG
  go_enter Tryd.func5, Tryd.ntmps5
  go_wp2_with fail
  refine HM.out.mono ?_
  rintro e w1 ⟨rfl, hB⟩
  have E := hidb hB
  clear hB HM
  go_wp2_with fail
  refine (HF.out _ E.out).mono ?_
  rintro e w2 ⟨rfl, hB⟩
  replace E := hidb (Gr.step E.out hB.out)
  clear hB HF
  go_wp2_with (go_at_call 8; refine (HE.out _ E.out).mono ?_; rintro e w3 ⟨rfl, hB⟩; replace E := hidb (Gr.step E.out hB.out); clear hB)
  go_ret
  exact ⟨rfl, E.out⟩
end Go.Proofs.YtnadgoomkaldkaaDoor
namespace Go.Proofs.YtnadgoomkaldkaaDoor
open Go.RowKit
attribute [local go_sem ↓] Go.wp_at_zero Go.wp_at_succ

/-- The two maps in boxes, and the one handed in. -/
structure KB (w W : World) (TB GB pb po : Nat) (vT vG vM : Value) : Prop where
  t : W.cell? ⟨TB, 0, none⟩ = some vT
  g : W.cell? ⟨GB, 0, none⟩ = some vG
  m : W.cell? ⟨pb, po, none⟩ = some vM
  l : TB < W.heap.size ∧ GB < W.heap.size ∧ pb < W.heap.size
  gr : Gr w W
theorem KB.below {w W w' : World} {TB GB pb po : Nat} {vT vG vM : Value} (h : KB w W TB GB pb po vT vG vM) (hB : Below W.heap.size W w') : KB w w' TB GB pb po vT vG vM :=
  ⟨(hB.cell (p := ⟨TB, 0, none⟩) h.l.1).trans h.t, (hB.cell (p := ⟨GB, 0, none⟩) h.l.2.1).trans h.g, (hB.cell (p := ⟨pb, po, none⟩) h.l.2.2).trans h.m, ⟨Nat.lt_of_lt_of_le h.l.1 hB.size, Nat.lt_of_lt_of_le h.l.2.1 hB.size, Nat.lt_of_lt_of_le h.l.2.2 hB.size⟩, Gr.step h.gr hB⟩
set_option maxRecDepth 4000 in
set_option maxHeartbeats 16000000 in
theorem skeeps_ok (g : Nat → Addr) {pb po : Nat} {ad : Option Addr} {b o cap : Nat} {Ls : List (List Sp)} {most : Int} (hf : fewK Ls = true) (hc : mcd Ls = 0) (hm : 0 ≤ most) (w : World) (hl : Lc w g) (hp : w.cell? ⟨pb, po, none⟩ = some (.slice ad Ls.length cap) ∧ pb < w.heap.size) (h : LLd w ad b o cap Ls) : Calls Tryd.prog 5 #[.pointer (some ⟨pb, po, none⟩), .int .i64 most] w fun e w' => e = .returned (.bool true) ∧ Gr w w' := by
  obtain ⟨hN, hlen, -, -, -⟩ := mcd_ok hc
  have hpG : ∀ W, Gr w W → W.cell? ⟨pb, po, none⟩ = some (.slice ad Ls.length cap) ∧ pb < W.heap.size := fun W hG => ⟨(hG.out.cell (p := ⟨pb, po, none⟩) hp.2).trans hp.1, Nat.lt_of_lt_of_le hp.2 hG.out.size⟩
  have HP := hidb hpG
  have HM := hidb (mapped_any g w hl)
  have HF := hidb (fun W (hG : Gr w W) => fewArcs_any (by omega) (by omega) W (hpG W hG) (h.ll.below hG.out))
  rw [hf] at HF
  have HE := hidb (fun W (hG : Gr w W) => mapError_any (by omega) (by omega) W (hpG W hG) (h.ll.below hG.out))
  rw [hc] at HE
  have HD := hidb (fun W (hG : Gr w W) => drawn_any (by omega) (fun i hi => by have := len_le hi; omega) W (hpG W hG) (h.below hG.out))
  have HT := hidb (fun W a1 b1 c1 (hL : LLd W a1 b1 0 c1 Ls) (hG : Gr w W) => thin_keeps g hc hm W hL (hl.gr hG))
  have HA := hidb (fun W a1 b1 c1 L (hL : LLd W a1 b1 0 c1 L) (hk : KpT most Ls L) (hG : Gr w W) => thin_again g hm W hL hk (hl.gr hG))
  have HFa := hidb (fun W a1 b1 c1 (hL : LLd W a1 b1 0 c1 Ls) (hG : Gr w W) => faces_ok g hc W hL (hl.gr hG))
  have HFt : Hid (∀ W a1 b1 c1 L, LLd W a1 b1 0 c1 L → KpT most Ls L → Gr w W → Calls Tryd.prog 12 #[.agg #[.slice a1 Ls.length c1]] W fun e w' => ∃ base v vs, e = .returned (.tuple #[v, .nilIface]) ∧ RQ w' base v vs (tdLL (roP Ls)) ∧ Gr W w') := fun W a1 b1 c1 L hL hk hG => by
    have := faces_ok g hk.m W hL (hl.gr hG)
    rw [hk.n, hk.ro] at this
    exact this
  have hM := OkM.of hc
  have HRd : Hid ((∀ R ∈ roP Ls, RdR Ls R) ∧ (roP Ls).length ≤ 2 * Ls.length) := (roF_all hM (2 * Ls.length) (Nat.le_refl _)).2
  have HSl := hidb (fun ad1 b1 o1 c1 ad2 b2 o2 c2 W (h1 : LIs W ad1 b1 o1 c1 (tdLL (roP Ls))) (h2 : LIs W ad2 b2 o2 c2 (tdLL (roP Ls))) => sameLists_eq (by have := HRd.out.2; simp; omega) (fun i hi => by
    have hi2 : i < (roP Ls).length := by simpa using hi
    have := (HRd.out.1 _ (List.getElem_mem hi2)).len
    simp [lI, hi2]; omega) W h1 h2)
  have HLm := hidb (fun W (hG : Gr w W) => h.ll.below hG.out)
  have HLn := hidb (fun i (hi : i < Ls.length) => Nat.le_trans (len_le hi) hlen)
  have HX := hidb h.ix
  push_cast at HE
  generalize roP Ls = Q at *
  obtain ⟨M, hMn⟩ : ∃ M, M = Q.length := ⟨_, rfl⟩
  have hQL : (tdLL Q).length = M := by rw [hMn]; simp
  have HQL := hidb hQL
  rw [hQL] at HSl
  have hm' : ¬ most < 0 := by omega
  obtain ⟨N, hNn⟩ : ∃ N, N = Ls.length := ⟨_, rfl⟩
  have HNn := hidb hNn
  rw [← hNn] at HP HD HT HA HFa HFt HX hN
  have HNb := hidb hN
  clear hN hf hc hl hp h hpG hlen hm hM hMn hQL hNn HRd
  go_enter Tryd.func5, Tryd.ntmps5
  go_wp2_with fail
  refine HM.out.mono ?_
  rintro e w1 ⟨rfl, hB⟩
  have E := hidb hB
  clear hB HM
  go_wp2_with fail
  refine (HF.out _ E.out).mono ?_
  rintro e w2 ⟨rfl, hB⟩
  replace E := hidb (Gr.step E.out hB.out)
  clear hB HF
  go_wp2_with fail
  refine (HE.out _ E.out).mono ?_
  rintro e w3 ⟨rfl, hB⟩
  replace E := hidb (Gr.step E.out hB.out)
  clear hB HE
  go_wp2_with fail
  refine (HD.out _ E.out).mono ?_
  rintro e w4 ⟨a1, b1, c1, rfl, hL, hB⟩
  replace E := hidb (Gr.step E.out hB.out)
  clear hB
  go_wp2_with fail
  refine (HT.out _ _ _ _ hL E.out).mono ?_
  rintro e w5 ⟨aT, bT, cT, L, rfl, hL', hK, hB⟩
  replace E := hidb (Gr.step E.out hB.out)
  have HK := hidb hK
  have HL := hidb hL'
  clear hB hL hL' hK HT
  have BX : Hid (PF1 w (w5.alloc (.cells #[.slice aT N cT] 32)) w5.heap.size [.slice aT N cT]) := ⟨At.new1 _ _ _, E.out.alloc _⟩
  have HL2 := hidb (HL.out.below ((Below.refl _ _).alloc (Nat.le_refl _) (.cells #[.slice aT N cT] 32)))
  clear E HL
  go_wp2_with fail
  refine (HD.out _ BX.out.gr).mono ?_
  rintro e w7 ⟨a3, b3, c3, rfl, hL, hB⟩
  replace BX := hidb (BX.out.below hB.out)
  replace HL2 := hidb (HL2.out.below hB.out)
  generalize w5.heap.size = TB at *
  clear hB HD
  go_wp2_with fail
  refine (HFa.out _ _ _ _ hL BX.out.gr).mono ?_
  rintro e w8 ⟨base8, v8, vs8, rfl, hQ8, hB⟩
  replace BX := hidb (BX.out.below hB.out)
  replace HL2 := hidb (HL2.out.below hB.out)
  obtain ⟨ad8, b8, o8, cap8, rfl, HL8⟩ := hQ8.lisn HQL.out
  have z1 := BX.out.a.c1
  clear hB hL hQ8 HFa
  go_wp2_with fail
  refine (HFt.out _ _ _ _ _ HL2.out HK.out BX.out.gr).mono ?_
  rintro e w9 ⟨base9, v9, vs9, rfl, hQ9, hB⟩
  replace BX := hidb (BX.out.below hB.out)
  replace HL2 := hidb (HL2.out.below hB.out)
  replace HL8 := hidb (HL8.out.below hB.out)
  obtain ⟨ad9, b9, o9, cap9, rfl, HL9⟩ := hQ9.lisn HQL.out
  clear hB hQ9 HFt z1
  go_wp2_with fail
  refine (HSl.out _ _ _ _ _ _ _ _ _ HL8.out HL9.out).mono ?_
  rintro e w10 ⟨rfl, hB⟩
  replace BX := hidb (BX.out.below hB.out)
  replace HL2 := hidb (HL2.out.below hB.out)
  have z1 := BX.out.a.c1
  clear hB HL8 HL9 HSl HQL
  go_wp2_with fail
  refine (HA.out _ _ _ _ _ HL2.out HK.out BX.out.gr).mono ?_
  rintro e w11 ⟨aG, bG, cG, rfl, hL3, hB⟩
  replace BX := hidb (BX.out.below hB.out)
  replace HL2 := hidb (HL2.out.below hB.out)
  have HL3 := hidb (hL3.below ((Below.refl _ _).alloc (Nat.le_refl _) (.cells #[.slice aG N cG] 32)))
  have KX : Hid (KB w (w11.alloc (.cells #[.slice aG N cG] 32)) TB w11.heap.size pb po (.slice aT N cT) (.slice aG N cG) (.slice ad N cap)) := by
    obtain ⟨p1, p2⟩ := HP.out _ (BX.out.gr.alloc (.cells #[.slice aG N cG] 32))
    exact ⟨(BX.out.a.alloc _).c1, (At.new1 _ _ _).c1, p1, ⟨(BX.out.a.alloc _).2, by simp, p2⟩, BX.out.gr.alloc _⟩
  replace HL2 := hidb (HL2.out.below ((Below.refl _ _).alloc (Nat.le_refl _) (.cells #[.slice aG N cG] 32)))
  clear hB hL3 HA z1 HP BX
  go_upto_region 12 with fail
  generalize w11.heap.size = GB at *
  generalize w11.alloc (.cells #[.slice aG N cG] 32) = W1 at *
  refine wp_region_held_drew (S := (fun w' => w'.cell? ⟨TB, 0, none⟩ = some (.slice aT N cT) ∧ w'.cell? ⟨GB, 0, none⟩ = some (.slice aG N cG) ∧ w'.cell? ⟨pb, po, none⟩ = some (.slice ad N cap))) (by kernel_rfl) ?_ (fun hHeld => ?_)
  · (try dsimp only); exact (fun (k : KB w W1.drew TB GB pb po _ _ _) => ⟨k.t, k.g, k.m⟩) (KX.out.below (Gr.refl W1).drew.out)
  replace KX := hidb (KX.out.below (Gr.refl W1).drew.out)
  replace HL2 := hidb (HL2.out.below (Gr.refl W1).drew.out)
  replace HL3 := hidb (HL3.out.below (Gr.refl W1).drew.out)
  generalize W1.drew = V0 at *
  refine wt (i := 0) (v := ?vk12q0x6) rfl ?hk12q0x6 ?rk12q0x6
  case hk12q0x6 => (intro w hSw; (try dsimp only at hSw); obtain ⟨x1, x2, x3⟩ := hSw; go_simp; try with_reducible rfl)
  (try simp only [Act.put, lq1, lq2, lq4, lq5, lq6])
  refine wt (i := 1) (v := ?vk12q1x9) rfl ?hk12q1x9 ?rk12q1x9
  case hk12q1x9 => (intro w hSw; (try dsimp only at hSw); obtain ⟨x1, x2, x3⟩ := hSw; go_simp; try with_reducible rfl)
  (try simp only [Act.put, lq1, lq2, lq3, lq4, lq5, lq6])
  refine wt (i := 2) (v := ?vk12q2x12) rfl ?hk12q2x12 ?rk12q2x12
  case hk12q2x12 => (intro w hSw; (try dsimp only at hSw); obtain ⟨x1, x2, x3⟩ := hSw; go_simp; try with_reducible rfl)
  (try simp only [Act.put, lq1, lq2, lq3, lq4, lq5, lq6])
  refine wt (i := 3) (v := ?vk12q3x15) rfl ?hk12q3x15 ?rk12q3x15
  case hk12q3x15 => (intro w hSw; (try dsimp only at hSw); obtain ⟨x1, x2, x3⟩ := hSw; go_simp; try with_reducible rfl)
  (try simp only [Act.put, lq1, lq2, lq3, lq4, lq5, lq6])
  refine wt (i := 4) (v := ?vk12q4x18) rfl ?hk12q4x18 ?rk12q4x18
  case hk12q4x18 => (intro w hSw; (try dsimp only at hSw); obtain ⟨x1, x2, x3⟩ := hSw; go_simp; try with_reducible rfl)
  (try simp only [Act.put, lq1, lq2, lq3, lq4, lq5, lq6])
  refine wt (i := 5) (v := ?vk12q5x21) rfl ?hk12q5x21 ?rk12q5x21
  case hk12q5x21 => (intro w hSw; (try dsimp only at hSw); obtain ⟨x1, x2, x3⟩ := hSw; go_simp; try with_reducible rfl)
  (try simp only [Act.put, lq1, lq2, lq3, lq4, lq5, lq6])
  refine wt (i := 6) (v := ?vk12q6x24) rfl ?hk12q6x24 ?rk12q6x24
  case hk12q6x24 => (intro w hSw; (try dsimp only at hSw); obtain ⟨x1, x2, x3⟩ := hSw; go_simp; try with_reducible rfl)
  (try simp only [Act.put, lq1, lq2, lq3, lq4, lq5, lq6])
  refine wt (i := 7) (v := ?vk12q7x27) rfl ?hk12q7x27 ?rk12q7x27
  case hk12q7x27 => (intro w hSw; (try dsimp only at hSw); obtain ⟨x1, x2, x3⟩ := hSw; go_simp; try with_reducible rfl)
  (try simp only [Act.put, lq1, lq2, lq3, lq4, lq5, lq6])
  refine wt (i := 8) (v := ?vk12q8x30) rfl ?hk12q8x30 ?rk12q8x30
  case hk12q8x30 => (intro w hSw; (try dsimp only at hSw); obtain ⟨x1, x2, x3⟩ := hSw; go_simp; try with_reducible rfl)
  (try simp only [Act.put, lq1, lq2, lq3, lq4, lq5, lq6])
  refine wt (i := 9) (v := ?vk12q9x33) rfl ?hk12q9x33 ?rk12q9x33
  case hk12q9x33 => (intro w hSw; (try dsimp only at hSw); obtain ⟨x1, x2, x3⟩ := hSw; go_simp; try with_reducible rfl)
  (try simp only [Act.put, lq1, lq2, lq3, lq4, lq5, lq6])
  refine wt (i := 10) (v := ?vk12q10x36) rfl ?hk12q10x36 ?rk12q10x36
  case hk12q10x36 => (intro w hSw; (try dsimp only at hSw); obtain ⟨x1, x2, x3⟩ := hSw; go_simp; try with_reducible rfl)
  (try simp only [Act.put, lq1, lq2, lq3, lq4, lq5, lq6])
  refine wt (i := 11) (v := ?vk12q11x39) rfl ?hk12q11x39 ?rk12q11x39
  case hk12q11x39 => (intro w hSw; (try dsimp only at hSw); obtain ⟨x1, x2, x3⟩ := hSw; go_simp; try with_reducible rfl)
  (try simp only [Act.put, lq1, lq2, lq3, lq4, lq5, lq6])
  refine wt (i := 12) (v := ?vk12q12x42) rfl ?hk12q12x42 ?rk12q12x42
  case hk12q12x42 => (intro w hSw; (try dsimp only at hSw); obtain ⟨x1, x2, x3⟩ := hSw; go_simp; try with_reducible rfl)
  (try simp only [Act.put, lq1, lq2, lq3, lq4, lq5, lq6])
  refine wt (i := 13) (v := ?vk12q13x45) rfl ?hk12q13x45 ?rk12q13x45
  case hk12q13x45 => (intro w hSw; (try dsimp only at hSw); obtain ⟨x1, x2, x3⟩ := hSw; go_simp; try with_reducible rfl)
  (try simp only [Act.put, lq1, lq2, lq3, lq4, lq5, lq6])
  refine wt (i := 14) (v := ?vk12q14x48) rfl ?hk12q14x48 ?rk12q14x48
  case hk12q14x48 => (intro w hSw; (try dsimp only at hSw); obtain ⟨x1, x2, x3⟩ := hSw; go_simp; try with_reducible rfl)
  (try simp only [Act.put, lq1, lq2, lq3, lq4, lq5, lq6])
  refine wt (i := 15) (v := ?vk12q15x51) rfl ?hk12q15x51 ?rk12q15x51
  case hk12q15x51 => (intro w hSw; (try dsimp only at hSw); obtain ⟨x1, x2, x3⟩ := hSw; go_simp; try with_reducible rfl)
  (try simp only [Act.put, lq1, lq2, lq3, lq4, lq5, lq6])
  refine wt (i := 16) (v := ?vk12q16x54) rfl ?hk12q16x54 ?rk12q16x54
  case hk12q16x54 => (intro w hSw; (try dsimp only at hSw); obtain ⟨x1, x2, x3⟩ := hSw; go_simp; try with_reducible rfl)
  (try simp only [Act.put, lq1, lq2, lq3, lq4, lq5, lq6])
  refine wt (i := 17) (v := ?vk12q17x57) rfl ?hk12q17x57 ?rk12q17x57
  case hk12q17x57 => (intro w hSw; (try dsimp only at hSw); obtain ⟨x1, x2, x3⟩ := hSw; go_simp; try with_reducible rfl)
  (try simp only [Act.put, lq1, lq2, lq3, lq4, lq5, lq6])
  refine wt (i := 18) (v := ?vk12q18x60) rfl ?hk12q18x60 ?rk12q18x60
  case hk12q18x60 => (intro w hSw; (try dsimp only at hSw); obtain ⟨x1, x2, x3⟩ := hSw; go_simp; try with_reducible rfl)
  (try simp only [Act.put, lq1, lq2, lq3, lq4, lq5, lq6])
  refine wt (i := 19) (v := ?vk12q19x63) rfl ?hk12q19x63 ?rk12q19x63
  case hk12q19x63 => (intro w hSw; (try dsimp only at hSw); obtain ⟨x1, x2, x3⟩ := hSw; go_simp; try with_reducible rfl)
  (try simp only [Act.put, lq1, lq2, lq3, lq4, lq5, lq6])
  refine wt (i := 20) (v := ?vk12q20x66) rfl ?hk12q20x66 ?rk12q20x66
  case hk12q20x66 => (intro w hSw; (try dsimp only at hSw); obtain ⟨x1, x2, x3⟩ := hSw; go_simp; try with_reducible rfl)
  (try simp only [Act.put, lq1, lq2, lq3, lq4, lq5, lq6])
  refine wt (i := 21) (v := ?vk12q21x69) rfl ?hk12q21x69 ?rk12q21x69
  case hk12q21x69 => (intro w hSw; (try dsimp only at hSw); obtain ⟨x1, x2, x3⟩ := hSw; go_simp; try with_reducible rfl)
  (try simp only [Act.put, lq1, lq2, lq3, lq4, lq5, lq6])
  refine wt (i := 22) (v := ?vk12q22x72) rfl ?hk12q22x72 ?rk12q22x72
  case hk12q22x72 => (intro w hSw; (try dsimp only at hSw); obtain ⟨x1, x2, x3⟩ := hSw; go_simp; try with_reducible rfl)
  (try simp only [Act.put, lq1, lq2, lq3, lq4, lq5, lq6])
  refine wt (i := 23) (v := ?vk12q23x75) rfl ?hk12q23x75 ?rk12q23x75
  case hk12q23x75 => (intro w hSw; (try dsimp only at hSw); obtain ⟨x1, x2, x3⟩ := hSw; go_simp; try with_reducible rfl)
  (try simp only [Act.put, lq1, lq2, lq3, lq4, lq5, lq6])
  refine wt (i := 24) (v := ?vk12q24x78) rfl ?hk12q24x78 ?rk12q24x78
  case hk12q24x78 => (intro w hSw; (try dsimp only at hSw); obtain ⟨x1, x2, x3⟩ := hSw; go_simp; try with_reducible rfl)
  (try simp only [Act.put, lq1, lq2, lq3, lq4, lq5, lq6])
  refine wt (i := 25) (v := ?vk12q25x81) rfl ?hk12q25x81 ?rk12q25x81
  case hk12q25x81 => (intro w hSw; (try dsimp only at hSw); obtain ⟨x1, x2, x3⟩ := hSw; go_simp; try with_reducible rfl)
  (try simp only [Act.put, lq1, lq2, lq3, lq4, lq5, lq6])
  refine wt (i := 26) (v := ?vk12q26x84) rfl ?hk12q26x84 ?rk12q26x84
  case hk12q26x84 => (intro w hSw; (try dsimp only at hSw); obtain ⟨x1, x2, x3⟩ := hSw; go_simp; try with_reducible rfl)
  (try simp only [Act.put, lq1, lq2, lq3, lq4, lq5, lq6])
  refine wt (i := 27) (v := ?vk12q27x87) rfl ?hk12q27x87 ?rk12q27x87
  case hk12q27x87 => (intro w hSw; (try dsimp only at hSw); obtain ⟨x1, x2, x3⟩ := hSw; go_simp; try with_reducible rfl)
  (try simp only [Act.put, lq1, lq2, lq3, lq4, lq5, lq6])
  refine wt (i := 28) (v := ?vk12q28x90) rfl ?hk12q28x90 ?rk12q28x90
  case hk12q28x90 => (intro w hSw; (try dsimp only at hSw); obtain ⟨x1, x2, x3⟩ := hSw; go_simp; try with_reducible rfl)
  (try simp only [Act.put, lq1, lq2, lq3, lq4, lq5, lq6])
  refine wt (i := 29) (v := ?vk12q29x93) rfl ?hk12q29x93 ?rk12q29x93
  case hk12q29x93 => (intro w hSw; (try dsimp only at hSw); obtain ⟨x1, x2, x3⟩ := hSw; go_simp; try with_reducible rfl)
  (try simp only [Act.put, lq1, lq2, lq3, lq4, lq5, lq6])
  refine wt (i := 30) (v := ?vk12q30x96) rfl ?hk12q30x96 ?rk12q30x96
  case hk12q30x96 => (intro w hSw; (try dsimp only at hSw); obtain ⟨x1, x2, x3⟩ := hSw; go_simp; try with_reducible rfl)
  (try simp only [Act.put, lq1, lq2, lq3, lq4, lq5, lq6])
  refine wt (i := 31) (v := ?vk12q31x99) rfl ?hk12q31x99 ?rk12q31x99
  case hk12q31x99 => (intro w hSw; (try dsimp only at hSw); obtain ⟨x1, x2, x3⟩ := hSw; go_simp; try with_reducible rfl)
  (try simp only [Act.put, lq1, lq2, lq3, lq4, lq5, lq6])
  refine wt (i := 32) (v := ?vk12q32x102) rfl ?hk12q32x102 ?rk12q32x102
  case hk12q32x102 => (intro w hSw; (try dsimp only at hSw); obtain ⟨x1, x2, x3⟩ := hSw; go_simp; try with_reducible rfl)
  (try simp only [Act.put, lq1, lq2, lq3, lq4, lq5, lq6])
  refine wt (i := 33) (v := ?vk12q33x105) rfl ?hk12q33x105 ?rk12q33x105
  case hk12q33x105 => (intro w hSw; (try dsimp only at hSw); obtain ⟨x1, x2, x3⟩ := hSw; go_simp; try with_reducible rfl)
  (try simp only [Act.put, lq1, lq2, lq3, lq4, lq5, lq6])
  refine wt (i := 34) (v := ?vk12q34x108) rfl ?hk12q34x108 ?rk12q34x108
  case hk12q34x108 => (intro w hSw; (try dsimp only at hSw); obtain ⟨x1, x2, x3⟩ := hSw; go_simp; try with_reducible rfl)
  (try simp only [Act.put, lq1, lq2, lq3, lq4, lq5, lq6])
  refine wt (i := 35) (v := ?vk12q35x111) rfl ?hk12q35x111 ?rk12q35x111
  case hk12q35x111 => (intro w hSw; (try dsimp only at hSw); obtain ⟨x1, x2, x3⟩ := hSw; go_simp; try with_reducible rfl)
  (try simp only [Act.put, lq1, lq2, lq3, lq4, lq5, lq6])
  refine wpAnyH_done (by kernel_rfl) ?_ _
  go_wp2
  go_loopw [16] (fun t wr => ∃ i : Nat, i ≤ N ∧ t = .int .i64 (i : Int) ∧ Hid (KB w wr TB GB pb po (.slice aT N cT) (.slice aG N cG) (.slice ad N cap) ∧ LLs wr aT bT 0 cT L ∧ LLs wr aG bG 0 cG L)) (fun t _ => N - (intOf t).toNat)
  case atStart => exact ⟨0, Nat.zero_le _, rfl, hidb ⟨KX.out, HL2.out.ll, HL3.out.ll⟩⟩
  case round =>
    clear KX HL2 HL3
    obtain ⟨i, hi, rfl, E⟩ := hrel
    obtain ⟨y1, y2, y3, -, -⟩ := E.out.1
    by_cases h1 : ¬ i < N
    · have h1' : ¬ (i : Int) < (N : Int) := by omega
      clear h1
      go_wp2
      go_ret
      exact ⟨rfl, E.out.1.gr⟩
    · have h1' : (i : Int) < (N : Int) := by omega
      have hiN : i < N := by omega
      have H1 := hidb hiN
      have hiL : i < Ls.length := by rw [← HNn.out]; exact hiN
      have hiK : i < L.length := by rw [HK.out.n]; exact hiL
      have e1 : IntKind.i64.wrap ((i : Int) + 1) = ((i + 1 : Nat) : Int) := by rw [show (i : Int) + 1 = ((i + 1 : Nat) : Int) by omega]; exact wr_in (by omega) (by have := HNb.out; omega)
      obtain ⟨⟨at', bt', ot', ct', u0, hSt⟩, ub⟩ := E.out.2.1.row i hiK
      obtain ⟨⟨ag', bg', og', cg', v0, -⟩, vb⟩ := E.out.2.2.row i hiK
      obtain ⟨⟨am', bm', om', cm', x0, hSm⟩, xb⟩ := (HLm.out _ E.out.1.gr).row i hiL
      have iT : ∀ w, (Instr.indexAt 30 (.slice aT N cT) (.int .i64 (i : Int))).run Tryd.prog w = .ok (.pointer (some ⟨bT, i, none⟩)) w := by
        have := E.out.2.1.ix i hiK
        rw [HK.out.n, ← HNn.out, Nat.zero_add] at this
        exact this
      have iG : ∀ w, (Instr.indexAt 30 (.slice aG N cG) (.int .i64 (i : Int))).run Tryd.prog w = .ok (.pointer (some ⟨bG, i, none⟩)) w := by
        have := E.out.2.2.ix i hiK
        rw [HK.out.n, ← HNn.out, Nat.zero_add] at this
        exact this
      have iM := HX.out i hiN
      obtain ⟨q1, q2, q3⟩ := HK.out.e i hiL
      have q0 := ((mcd_ok HK.out.m).2.2.1 i hiK).1
      have q4 := HLn.out i hiL
      obtain ⟨⟨tp0, tp1⟩, -⟩ := hSt.row 0 (by omega)
      obtain ⟨⟨tq0, tq1⟩, -⟩ := hSt.row ((lx L i).length - 1) (by omega)
      obtain ⟨⟨mp0, mp1⟩, -⟩ := hSm.row 0 (by omega)
      obtain ⟨⟨mq0, mq1⟩, -⟩ := hSm.row ((lx Ls i).length - 1) (by omega)
      rw [← q2] at mp0 mp1
      rw [← q3] at mq0 mq1
      have jT0 := hSt.ix 0 (by omega)
      have jT1 := hSt.ix ((lx L i).length - 1) (by omega)
      have jM0 := hSm.ix 0 (by omega)
      have jM1 := hSm.ix ((lx Ls i).length - 1) (by omega)
      push_cast at jT0 jM0
      rw [Nat.zero_add] at u0 v0
      rw [Nat.zero_mul, Nat.add_zero] at tp0 tp1 mp0 mp1
      simp only [Nat.add_zero] at jT0 jM0
      have eT : IntKind.i64.wrap (((lx L i).length : Int) - 1) = (((lx L i).length - 1 : Nat) : Int) := by rw [show ((lx L i).length : Int) - 1 = (((lx L i).length - 1 : Nat) : Int) by omega]; exact wr_in (by omega) (by omega)
      have eM : IntKind.i64.wrap (((lx Ls i).length : Int) - 1) = (((lx Ls i).length - 1 : Nat) : Int) := by rw [show ((lx Ls i).length : Int) - 1 = (((lx Ls i).length - 1 : Nat) : Int) by omega]; exact wr_in (by omega) (by omega)
      have r0 : ¬ (((lx L i).length : Nat) : Int) < 2 := by omega
      have r1 : ¬ (((lx Ls i).length : Nat) : Int) < (((lx L i).length : Nat) : Int) := by omega
      have ne0 := sp_ne (sx (lx L i) 0) (sx (lx L i) 0)
      have ne1 := sp_ne (sx (lx L i) ((lx L i).length - 1)) (sx (lx L i) ((lx L i).length - 1))
      rw [decide_eq_true rfl] at ne0 ne1
      obtain ⟨pA, hpA⟩ : ∃ z, z = sx (lx L i) 0 := ⟨_, rfl⟩
      rw [← hpA] at tp0 tp1 mp0 mp1 ne0
      obtain ⟨pB, hpB⟩ : ∃ z, z = sx (lx L i) ((lx L i).length - 1) := ⟨_, rfl⟩
      rw [← hpB] at tq0 tq1 mq0 mq1 ne1
      generalize hlt : (lx L i).length - 1 = lt1 at *
      generalize hlm : (lx Ls i).length - 1 = lm1 at *
      generalize (lx L i).length = lt0 at *
      generalize (lx Ls i).length = lm0 at *
      have HS : Hid ((wr.cell? ⟨TB, 0, none⟩ = some (.slice aT N cT) ∧ wr.cell? ⟨GB, 0, none⟩ = some (.slice aG N cG) ∧ wr.cell? ⟨pb, po, none⟩ = some (.slice ad N cap)) ∧ (wr.cell? ⟨bT, i, none⟩ = some (.slice at' lt0 ct') ∧ wr.cell? ⟨bG, i, none⟩ = some (.slice ag' lt0 cg') ∧ wr.cell? ⟨b, o + i, none⟩ = some (.slice am' lm0 cm')) ∧ ((wr.cell? ⟨bt', ot', none⟩ = some (.int .i64 pA.1) ∧ wr.cell? ⟨bt', ot' + 1, none⟩ = some (.int .i64 pA.2)) ∧ wr.cell? ⟨bt', ot' + lt1 * 2, none⟩ = some (.int .i64 pB.1) ∧ wr.cell? ⟨bt', ot' + lt1 * 2 + 1, none⟩ = some (.int .i64 pB.2)) ∧ (wr.cell? ⟨bm', om', none⟩ = some (.int .i64 pA.1) ∧ wr.cell? ⟨bm', om' + 1, none⟩ = some (.int .i64 pA.2)) ∧ wr.cell? ⟨bm', om' + lm1 * 2, none⟩ = some (.int .i64 pB.1) ∧ wr.cell? ⟨bm', om' + lm1 * 2 + 1, none⟩ = some (.int .i64 pB.2)) :=
        ⟨⟨y1, y2, y3⟩, ⟨u0, v0, x0⟩, ⟨⟨tp0, tp1⟩, tq0, tq1⟩, ⟨mp0, mp1⟩, mq0, mq1⟩
      clear h1 hiN hiL hiK ub vb xb hSt hSm q0 q1 q2 q3 q4 hpA hpB hlt hlm tp0 tp1 tq0 tq1 mp0 mp1 mq0 mq1
      go_upto_region 19 with fail
      have HSd := hidb (show (wr.drew.cell? ⟨TB, 0, none⟩ = some (.slice aT N cT) ∧ wr.drew.cell? ⟨GB, 0, none⟩ = some (.slice aG N cG) ∧ wr.drew.cell? ⟨pb, po, none⟩ = some (.slice ad N cap)) ∧ (wr.drew.cell? ⟨bT, i, none⟩ = some (.slice at' lt0 ct') ∧ wr.drew.cell? ⟨bG, i, none⟩ = some (.slice ag' lt0 cg') ∧ wr.drew.cell? ⟨b, o + i, none⟩ = some (.slice am' lm0 cm')) ∧ ((wr.drew.cell? ⟨bt', ot', none⟩ = some (.int .i64 pA.1) ∧ wr.drew.cell? ⟨bt', ot' + 1, none⟩ = some (.int .i64 pA.2)) ∧ wr.drew.cell? ⟨bt', ot' + lt1 * 2, none⟩ = some (.int .i64 pB.1) ∧ wr.drew.cell? ⟨bt', ot' + lt1 * 2 + 1, none⟩ = some (.int .i64 pB.2)) ∧ (wr.drew.cell? ⟨bm', om', none⟩ = some (.int .i64 pA.1) ∧ wr.drew.cell? ⟨bm', om' + 1, none⟩ = some (.int .i64 pA.2)) ∧ wr.drew.cell? ⟨bm', om' + lm1 * 2, none⟩ = some (.int .i64 pB.1) ∧ wr.drew.cell? ⟨bm', om' + lm1 * 2 + 1, none⟩ = some (.int .i64 pB.2) by simpa using HS.out)
      refine wp_region_held_drew (S := (fun w' => (w'.cell? ⟨TB, 0, none⟩ = some (.slice aT N cT) ∧ w'.cell? ⟨GB, 0, none⟩ = some (.slice aG N cG) ∧ w'.cell? ⟨pb, po, none⟩ = some (.slice ad N cap)) ∧ (w'.cell? ⟨bT, i, none⟩ = some (.slice at' lt0 ct') ∧ w'.cell? ⟨bG, i, none⟩ = some (.slice ag' lt0 cg') ∧ w'.cell? ⟨b, o + i, none⟩ = some (.slice am' lm0 cm')) ∧ ((w'.cell? ⟨bt', ot', none⟩ = some (.int .i64 pA.1) ∧ w'.cell? ⟨bt', ot' + 1, none⟩ = some (.int .i64 pA.2)) ∧ w'.cell? ⟨bt', ot' + lt1 * 2, none⟩ = some (.int .i64 pB.1) ∧ w'.cell? ⟨bt', ot' + lt1 * 2 + 1, none⟩ = some (.int .i64 pB.2)) ∧ (w'.cell? ⟨bm', om', none⟩ = some (.int .i64 pA.1) ∧ w'.cell? ⟨bm', om' + 1, none⟩ = some (.int .i64 pA.2)) ∧ w'.cell? ⟨bm', om' + lm1 * 2, none⟩ = some (.int .i64 pB.1) ∧ w'.cell? ⟨bm', om' + lm1 * 2 + 1, none⟩ = some (.int .i64 pB.2))) (by kernel_rfl) ?_ (fun hHeld => ?_)
      · (try dsimp only); exact HSd.out
      skip
      refine wt (i := 0) (v := ?vk19q0x3) rfl ?hk19q0x3 ?rk19q0x3
      case hk19q0x3 => (intro w hSw; (try dsimp only at hSw); obtain ⟨⟨s1, s2, s3⟩, ⟨s4, s5, s6⟩, ⟨⟨t0, t1⟩, t2, t3⟩, ⟨m0, m1⟩, m2, m3⟩ := hSw; go_simp; try with_reducible rfl)
      (try simp only [Act.put, lq1, lq2, lq4, lq5, lq6])
      refine wt (i := 1) (v := ?vk19q1x6) rfl ?hk19q1x6 ?rk19q1x6
      case hk19q1x6 => (intro w hSw; (try dsimp only at hSw); obtain ⟨⟨s1, s2, s3⟩, ⟨s4, s5, s6⟩, ⟨⟨t0, t1⟩, t2, t3⟩, ⟨m0, m1⟩, m2, m3⟩ := hSw; go_simp; try with_reducible rfl)
      (try simp only [Act.put, lq1, lq2, lq3, lq4, lq5, lq6])
      refine wt (i := 2) (v := ?vk19q2x9) rfl ?hk19q2x9 ?rk19q2x9
      case hk19q2x9 => (intro w hSw; (try dsimp only at hSw); obtain ⟨⟨s1, s2, s3⟩, ⟨s4, s5, s6⟩, ⟨⟨t0, t1⟩, t2, t3⟩, ⟨m0, m1⟩, m2, m3⟩ := hSw; go_simp; try with_reducible rfl)
      (try simp only [Act.put, lq1, lq2, lq3, lq4, lq5, lq6])
      refine wt (i := 3) (v := ?vk19q3x12) rfl ?hk19q3x12 ?rk19q3x12
      case hk19q3x12 => (intro w hSw; (try dsimp only at hSw); obtain ⟨⟨s1, s2, s3⟩, ⟨s4, s5, s6⟩, ⟨⟨t0, t1⟩, t2, t3⟩, ⟨m0, m1⟩, m2, m3⟩ := hSw; go_simp; try with_reducible rfl)
      (try simp only [Act.put, lq1, lq2, lq3, lq4, lq5, lq6])
      refine wt (i := 4) (v := ?vk19q4x15) rfl ?hk19q4x15 ?rk19q4x15
      case hk19q4x15 => (intro w hSw; (try dsimp only at hSw); obtain ⟨⟨s1, s2, s3⟩, ⟨s4, s5, s6⟩, ⟨⟨t0, t1⟩, t2, t3⟩, ⟨m0, m1⟩, m2, m3⟩ := hSw; go_simp; try with_reducible rfl)
      (try simp only [Act.put, lq1, lq2, lq3, lq4, lq5, lq6])
      refine wt (i := 5) (v := ?vk19q5x18) rfl ?hk19q5x18 ?rk19q5x18
      case hk19q5x18 => (intro w hSw; (try dsimp only at hSw); obtain ⟨⟨s1, s2, s3⟩, ⟨s4, s5, s6⟩, ⟨⟨t0, t1⟩, t2, t3⟩, ⟨m0, m1⟩, m2, m3⟩ := hSw; go_simp; try with_reducible rfl)
      (try simp only [Act.put, lq1, lq2, lq3, lq4, lq5, lq6])
      refine wt (i := 6) (v := ?vk19q6x21) rfl ?hk19q6x21 ?rk19q6x21
      case hk19q6x21 => (intro w hSw; (try dsimp only at hSw); obtain ⟨⟨s1, s2, s3⟩, ⟨s4, s5, s6⟩, ⟨⟨t0, t1⟩, t2, t3⟩, ⟨m0, m1⟩, m2, m3⟩ := hSw; go_simp; try with_reducible rfl)
      (try simp only [Act.put, lq1, lq2, lq3, lq4, lq5, lq6])
      refine wt (i := 7) (v := ?vk19q7x24) rfl ?hk19q7x24 ?rk19q7x24
      case hk19q7x24 => (intro w hSw; (try dsimp only at hSw); obtain ⟨⟨s1, s2, s3⟩, ⟨s4, s5, s6⟩, ⟨⟨t0, t1⟩, t2, t3⟩, ⟨m0, m1⟩, m2, m3⟩ := hSw; go_simp; try with_reducible rfl)
      (try simp only [Act.put, lq1, lq2, lq3, lq4, lq5, lq6])
      refine wt (i := 8) (v := ?vk19q8x27) rfl ?hk19q8x27 ?rk19q8x27
      case hk19q8x27 => (intro w hSw; (try dsimp only at hSw); obtain ⟨⟨s1, s2, s3⟩, ⟨s4, s5, s6⟩, ⟨⟨t0, t1⟩, t2, t3⟩, ⟨m0, m1⟩, m2, m3⟩ := hSw; go_simp; try with_reducible rfl)
      (try simp only [Act.put, lq1, lq2, lq3, lq4, lq5, lq6])
      refine wt (i := 9) (v := ?vk19q9x30) rfl ?hk19q9x30 ?rk19q9x30
      case hk19q9x30 => (intro w hSw; (try dsimp only at hSw); obtain ⟨⟨s1, s2, s3⟩, ⟨s4, s5, s6⟩, ⟨⟨t0, t1⟩, t2, t3⟩, ⟨m0, m1⟩, m2, m3⟩ := hSw; go_simp; try with_reducible rfl)
      (try simp only [Act.put, lq1, lq2, lq3, lq4, lq5, lq6])
      refine wt (i := 10) (v := ?vk19q10x33) rfl ?hk19q10x33 ?rk19q10x33
      case hk19q10x33 => (intro w hSw; (try dsimp only at hSw); obtain ⟨⟨s1, s2, s3⟩, ⟨s4, s5, s6⟩, ⟨⟨t0, t1⟩, t2, t3⟩, ⟨m0, m1⟩, m2, m3⟩ := hSw; go_simp; try with_reducible rfl)
      (try simp only [Act.put, lq1, lq2, lq3, lq4, lq5, lq6])
      refine wt (i := 11) (v := ?vk19q11x36) rfl ?hk19q11x36 ?rk19q11x36
      case hk19q11x36 => (intro w hSw; (try dsimp only at hSw); obtain ⟨⟨s1, s2, s3⟩, ⟨s4, s5, s6⟩, ⟨⟨t0, t1⟩, t2, t3⟩, ⟨m0, m1⟩, m2, m3⟩ := hSw; go_simp; try with_reducible rfl)
      (try simp only [Act.put, lq1, lq2, lq3, lq4, lq5, lq6])
      refine wt (i := 12) (v := ?vk19q12x39) rfl ?hk19q12x39 ?rk19q12x39
      case hk19q12x39 => (intro w hSw; (try dsimp only at hSw); obtain ⟨⟨s1, s2, s3⟩, ⟨s4, s5, s6⟩, ⟨⟨t0, t1⟩, t2, t3⟩, ⟨m0, m1⟩, m2, m3⟩ := hSw; go_simp; try with_reducible rfl)
      (try simp only [Act.put, lq1, lq2, lq3, lq4, lq5, lq6])
      refine wt (i := 13) (v := ?vk19q13x42) rfl ?hk19q13x42 ?rk19q13x42
      case hk19q13x42 => (intro w hSw; (try dsimp only at hSw); obtain ⟨⟨s1, s2, s3⟩, ⟨s4, s5, s6⟩, ⟨⟨t0, t1⟩, t2, t3⟩, ⟨m0, m1⟩, m2, m3⟩ := hSw; go_simp; try with_reducible rfl)
      (try simp only [Act.put, lq1, lq2, lq3, lq4, lq5, lq6])
      refine wt (i := 14) (v := ?vk19q14x45) rfl ?hk19q14x45 ?rk19q14x45
      case hk19q14x45 => (intro w hSw; (try dsimp only at hSw); obtain ⟨⟨s1, s2, s3⟩, ⟨s4, s5, s6⟩, ⟨⟨t0, t1⟩, t2, t3⟩, ⟨m0, m1⟩, m2, m3⟩ := hSw; go_simp; try with_reducible rfl)
      (try simp only [Act.put, lq1, lq2, lq3, lq4, lq5, lq6])
      refine wt (i := 15) (v := ?vk19q15x48) rfl ?hk19q15x48 ?rk19q15x48
      case hk19q15x48 => (intro w hSw; (try dsimp only at hSw); obtain ⟨⟨s1, s2, s3⟩, ⟨s4, s5, s6⟩, ⟨⟨t0, t1⟩, t2, t3⟩, ⟨m0, m1⟩, m2, m3⟩ := hSw; go_simp; try with_reducible rfl)
      (try simp only [Act.put, lq1, lq2, lq3, lq4, lq5, lq6])
      refine wt (i := 16) (v := ?vk19q16x51) rfl ?hk19q16x51 ?rk19q16x51
      case hk19q16x51 => (intro w hSw; (try dsimp only at hSw); obtain ⟨⟨s1, s2, s3⟩, ⟨s4, s5, s6⟩, ⟨⟨t0, t1⟩, t2, t3⟩, ⟨m0, m1⟩, m2, m3⟩ := hSw; go_simp; try with_reducible rfl)
      (try simp only [Act.put, lq1, lq2, lq3, lq4, lq5, lq6])
      refine wt (i := 17) (v := ?vk19q17x54) rfl ?hk19q17x54 ?rk19q17x54
      case hk19q17x54 => (intro w hSw; (try dsimp only at hSw); obtain ⟨⟨s1, s2, s3⟩, ⟨s4, s5, s6⟩, ⟨⟨t0, t1⟩, t2, t3⟩, ⟨m0, m1⟩, m2, m3⟩ := hSw; go_simp; try with_reducible rfl)
      (try simp only [Act.put, lq1, lq2, lq3, lq4, lq5, lq6])
      refine wt (i := 18) (v := ?vk19q18x57) rfl ?hk19q18x57 ?rk19q18x57
      case hk19q18x57 => (intro w hSw; (try dsimp only at hSw); obtain ⟨⟨s1, s2, s3⟩, ⟨s4, s5, s6⟩, ⟨⟨t0, t1⟩, t2, t3⟩, ⟨m0, m1⟩, m2, m3⟩ := hSw; go_simp; try with_reducible rfl)
      (try simp only [Act.put, lq1, lq2, lq3, lq4, lq5, lq6])
      refine wt (i := 19) (v := ?vk19q19x60) rfl ?hk19q19x60 ?rk19q19x60
      case hk19q19x60 => (intro w hSw; (try dsimp only at hSw); obtain ⟨⟨s1, s2, s3⟩, ⟨s4, s5, s6⟩, ⟨⟨t0, t1⟩, t2, t3⟩, ⟨m0, m1⟩, m2, m3⟩ := hSw; go_simp; try with_reducible rfl)
      (try simp only [Act.put, lq1, lq2, lq3, lq4, lq5, lq6])
      refine wt (i := 20) (v := ?vk19q20x63) rfl ?hk19q20x63 ?rk19q20x63
      case hk19q20x63 => (intro w hSw; (try dsimp only at hSw); obtain ⟨⟨s1, s2, s3⟩, ⟨s4, s5, s6⟩, ⟨⟨t0, t1⟩, t2, t3⟩, ⟨m0, m1⟩, m2, m3⟩ := hSw; go_simp; try with_reducible rfl)
      (try simp only [Act.put, lq1, lq2, lq3, lq4, lq5, lq6])
      refine wt (i := 21) (v := ?vk19q21x66) rfl ?hk19q21x66 ?rk19q21x66
      case hk19q21x66 => (intro w hSw; (try dsimp only at hSw); obtain ⟨⟨s1, s2, s3⟩, ⟨s4, s5, s6⟩, ⟨⟨t0, t1⟩, t2, t3⟩, ⟨m0, m1⟩, m2, m3⟩ := hSw; go_simp; try with_reducible rfl)
      (try simp only [Act.put, lq1, lq2, lq3, lq4, lq5, lq6])
      refine wt (i := 22) (v := ?vk19q22x69) rfl ?hk19q22x69 ?rk19q22x69
      case hk19q22x69 => (intro w hSw; (try dsimp only at hSw); obtain ⟨⟨s1, s2, s3⟩, ⟨s4, s5, s6⟩, ⟨⟨t0, t1⟩, t2, t3⟩, ⟨m0, m1⟩, m2, m3⟩ := hSw; go_simp; try with_reducible rfl)
      (try simp only [Act.put, lq1, lq2, lq3, lq4, lq5, lq6])
      refine wt (i := 23) (v := ?vk19q23x72) rfl ?hk19q23x72 ?rk19q23x72
      case hk19q23x72 => (intro w hSw; (try dsimp only at hSw); obtain ⟨⟨s1, s2, s3⟩, ⟨s4, s5, s6⟩, ⟨⟨t0, t1⟩, t2, t3⟩, ⟨m0, m1⟩, m2, m3⟩ := hSw; go_simp; try with_reducible rfl)
      (try simp only [Act.put, lq1, lq2, lq3, lq4, lq5, lq6])
      refine wt (i := 24) (v := ?vk19q24x75) rfl ?hk19q24x75 ?rk19q24x75
      case hk19q24x75 => (intro w hSw; (try dsimp only at hSw); obtain ⟨⟨s1, s2, s3⟩, ⟨s4, s5, s6⟩, ⟨⟨t0, t1⟩, t2, t3⟩, ⟨m0, m1⟩, m2, m3⟩ := hSw; go_simp; try with_reducible rfl)
      (try simp only [Act.put, lq1, lq2, lq3, lq4, lq5, lq6])
      refine wt (i := 25) (v := ?vk19q25x78) rfl ?hk19q25x78 ?rk19q25x78
      case hk19q25x78 => (intro w hSw; (try dsimp only at hSw); obtain ⟨⟨s1, s2, s3⟩, ⟨s4, s5, s6⟩, ⟨⟨t0, t1⟩, t2, t3⟩, ⟨m0, m1⟩, m2, m3⟩ := hSw; go_simp; try with_reducible rfl)
      (try simp only [Act.put, lq1, lq2, lq3, lq4, lq5, lq6])
      refine wt (i := 26) (v := ?vk19q26x81) rfl ?hk19q26x81 ?rk19q26x81
      case hk19q26x81 => (intro w hSw; (try dsimp only at hSw); obtain ⟨⟨s1, s2, s3⟩, ⟨s4, s5, s6⟩, ⟨⟨t0, t1⟩, t2, t3⟩, ⟨m0, m1⟩, m2, m3⟩ := hSw; go_simp; try with_reducible rfl)
      (try simp only [Act.put, lq1, lq2, lq3, lq4, lq5, lq6])
      refine wt (i := 27) (v := ?vk19q27x84) rfl ?hk19q27x84 ?rk19q27x84
      case hk19q27x84 => (intro w hSw; (try dsimp only at hSw); obtain ⟨⟨s1, s2, s3⟩, ⟨s4, s5, s6⟩, ⟨⟨t0, t1⟩, t2, t3⟩, ⟨m0, m1⟩, m2, m3⟩ := hSw; go_simp; try with_reducible rfl)
      (try simp only [Act.put, lq1, lq2, lq3, lq4, lq5, lq6])
      refine wt (i := 28) (v := ?vk19q28x87) rfl ?hk19q28x87 ?rk19q28x87
      case hk19q28x87 => (intro w hSw; (try dsimp only at hSw); obtain ⟨⟨s1, s2, s3⟩, ⟨s4, s5, s6⟩, ⟨⟨t0, t1⟩, t2, t3⟩, ⟨m0, m1⟩, m2, m3⟩ := hSw; go_simp; try with_reducible rfl)
      (try simp only [Act.put, lq1, lq2, lq3, lq4, lq5, lq6])
      refine wt (i := 29) (v := ?vk19q29x90) rfl ?hk19q29x90 ?rk19q29x90
      case hk19q29x90 => (intro w hSw; (try dsimp only at hSw); obtain ⟨⟨s1, s2, s3⟩, ⟨s4, s5, s6⟩, ⟨⟨t0, t1⟩, t2, t3⟩, ⟨m0, m1⟩, m2, m3⟩ := hSw; go_simp; try with_reducible rfl)
      (try simp only [Act.put, lq1, lq2, lq3, lq4, lq5, lq6])
      refine wt (i := 30) (v := ?vk19q30x93) rfl ?hk19q30x93 ?rk19q30x93
      case hk19q30x93 => (intro w hSw; (try dsimp only at hSw); obtain ⟨⟨s1, s2, s3⟩, ⟨s4, s5, s6⟩, ⟨⟨t0, t1⟩, t2, t3⟩, ⟨m0, m1⟩, m2, m3⟩ := hSw; go_simp; try with_reducible rfl)
      (try simp only [Act.put, lq1, lq2, lq3, lq4, lq5, lq6])
      refine wt (i := 31) (v := ?vk19q31x96) rfl ?hk19q31x96 ?rk19q31x96
      case hk19q31x96 => (intro w hSw; (try dsimp only at hSw); obtain ⟨⟨s1, s2, s3⟩, ⟨s4, s5, s6⟩, ⟨⟨t0, t1⟩, t2, t3⟩, ⟨m0, m1⟩, m2, m3⟩ := hSw; go_simp; try with_reducible rfl)
      (try simp only [Act.put, lq1, lq2, lq3, lq4, lq5, lq6])
      refine wt (i := 32) (v := ?vk19q32x99) rfl ?hk19q32x99 ?rk19q32x99
      case hk19q32x99 => (intro w hSw; (try dsimp only at hSw); obtain ⟨⟨s1, s2, s3⟩, ⟨s4, s5, s6⟩, ⟨⟨t0, t1⟩, t2, t3⟩, ⟨m0, m1⟩, m2, m3⟩ := hSw; go_simp; try with_reducible rfl)
      (try simp only [Act.put, lq1, lq2, lq3, lq4, lq5, lq6])
      refine wt (i := 33) (v := ?vk19q33x102) rfl ?hk19q33x102 ?rk19q33x102
      case hk19q33x102 => (intro w hSw; (try dsimp only at hSw); obtain ⟨⟨s1, s2, s3⟩, ⟨s4, s5, s6⟩, ⟨⟨t0, t1⟩, t2, t3⟩, ⟨m0, m1⟩, m2, m3⟩ := hSw; go_simp; try with_reducible rfl)
      (try simp only [Act.put, lq1, lq2, lq3, lq4, lq5, lq6])
      refine wt (i := 34) (v := ?vk19q34x105) rfl ?hk19q34x105 ?rk19q34x105
      case hk19q34x105 => (intro w hSw; (try dsimp only at hSw); obtain ⟨⟨s1, s2, s3⟩, ⟨s4, s5, s6⟩, ⟨⟨t0, t1⟩, t2, t3⟩, ⟨m0, m1⟩, m2, m3⟩ := hSw; go_simp; try with_reducible rfl)
      (try simp only [Act.put, lq1, lq2, lq3, lq4, lq5, lq6])
      refine wt (i := 35) (v := ?vk19q35x108) rfl ?hk19q35x108 ?rk19q35x108
      case hk19q35x108 => (intro w hSw; (try dsimp only at hSw); obtain ⟨⟨s1, s2, s3⟩, ⟨s4, s5, s6⟩, ⟨⟨t0, t1⟩, t2, t3⟩, ⟨m0, m1⟩, m2, m3⟩ := hSw; go_simp; try with_reducible rfl)
      (try simp only [Act.put, lq1, lq2, lq3, lq4, lq5, lq6])
      refine wt (i := 36) (v := ?vk19q36x111) rfl ?hk19q36x111 ?rk19q36x111
      case hk19q36x111 => (intro w hSw; (try dsimp only at hSw); obtain ⟨⟨s1, s2, s3⟩, ⟨s4, s5, s6⟩, ⟨⟨t0, t1⟩, t2, t3⟩, ⟨m0, m1⟩, m2, m3⟩ := hSw; go_simp; try with_reducible rfl)
      (try simp only [Act.put, lq1, lq2, lq3, lq4, lq5, lq6])
      refine wt (i := 37) (v := ?vk19q37x114) rfl ?hk19q37x114 ?rk19q37x114
      case hk19q37x114 => (intro w hSw; (try dsimp only at hSw); obtain ⟨⟨s1, s2, s3⟩, ⟨s4, s5, s6⟩, ⟨⟨t0, t1⟩, t2, t3⟩, ⟨m0, m1⟩, m2, m3⟩ := hSw; go_simp; try with_reducible rfl)
      (try simp only [Act.put, lq1, lq2, lq3, lq4, lq5, lq6])
      refine wt (i := 38) (v := ?vk19q38x117) rfl ?hk19q38x117 ?rk19q38x117
      case hk19q38x117 => (intro w hSw; (try dsimp only at hSw); obtain ⟨⟨s1, s2, s3⟩, ⟨s4, s5, s6⟩, ⟨⟨t0, t1⟩, t2, t3⟩, ⟨m0, m1⟩, m2, m3⟩ := hSw; go_simp; try with_reducible rfl)
      (try simp only [Act.put, lq1, lq2, lq3, lq4, lq5, lq6])
      refine wt (i := 39) (v := ?vk19q39x120) rfl ?hk19q39x120 ?rk19q39x120
      case hk19q39x120 => (intro w hSw; (try dsimp only at hSw); obtain ⟨⟨s1, s2, s3⟩, ⟨s4, s5, s6⟩, ⟨⟨t0, t1⟩, t2, t3⟩, ⟨m0, m1⟩, m2, m3⟩ := hSw; go_simp; try with_reducible rfl)
      (try simp only [Act.put, lq1, lq2, lq3, lq4, lq5, lq6])
      refine wt (i := 40) (v := ?vk19q40x123) rfl ?hk19q40x123 ?rk19q40x123
      case hk19q40x123 => (intro w hSw; (try dsimp only at hSw); obtain ⟨⟨s1, s2, s3⟩, ⟨s4, s5, s6⟩, ⟨⟨t0, t1⟩, t2, t3⟩, ⟨m0, m1⟩, m2, m3⟩ := hSw; go_simp; try with_reducible rfl)
      (try simp only [Act.put, lq1, lq2, lq3, lq4, lq5, lq6])
      refine wt (i := 41) (v := ?vk19q41x126) rfl ?hk19q41x126 ?rk19q41x126
      case hk19q41x126 => (intro w hSw; (try dsimp only at hSw); obtain ⟨⟨s1, s2, s3⟩, ⟨s4, s5, s6⟩, ⟨⟨t0, t1⟩, t2, t3⟩, ⟨m0, m1⟩, m2, m3⟩ := hSw; go_simp; try with_reducible rfl)
      (try simp only [Act.put, lq1, lq2, lq3, lq4, lq5, lq6])
      refine wt (i := 42) (v := ?vk19q42x129) rfl ?hk19q42x129 ?rk19q42x129
      case hk19q42x129 => (intro w hSw; (try dsimp only at hSw); obtain ⟨⟨s1, s2, s3⟩, ⟨s4, s5, s6⟩, ⟨⟨t0, t1⟩, t2, t3⟩, ⟨m0, m1⟩, m2, m3⟩ := hSw; go_simp; try with_reducible rfl)
      (try simp only [Act.put, lq1, lq2, lq3, lq4, lq5, lq6])
      refine wt (i := 43) (v := ?vk19q43x132) rfl ?hk19q43x132 ?rk19q43x132
      case hk19q43x132 => (intro w hSw; (try dsimp only at hSw); obtain ⟨⟨s1, s2, s3⟩, ⟨s4, s5, s6⟩, ⟨⟨t0, t1⟩, t2, t3⟩, ⟨m0, m1⟩, m2, m3⟩ := hSw; go_simp; try with_reducible rfl)
      (try simp only [Act.put, lq1, lq2, lq3, lq4, lq5, lq6])
      refine wt (i := 44) (v := ?vk19q44x135) rfl ?hk19q44x135 ?rk19q44x135
      case hk19q44x135 => (intro w hSw; (try dsimp only at hSw); obtain ⟨⟨s1, s2, s3⟩, ⟨s4, s5, s6⟩, ⟨⟨t0, t1⟩, t2, t3⟩, ⟨m0, m1⟩, m2, m3⟩ := hSw; go_simp; try with_reducible rfl)
      (try simp only [Act.put, lq1, lq2, lq3, lq4, lq5, lq6])
      refine wt (i := 45) (v := ?vk19q45x138) rfl ?hk19q45x138 ?rk19q45x138
      case hk19q45x138 => (intro w hSw; (try dsimp only at hSw); obtain ⟨⟨s1, s2, s3⟩, ⟨s4, s5, s6⟩, ⟨⟨t0, t1⟩, t2, t3⟩, ⟨m0, m1⟩, m2, m3⟩ := hSw; go_simp; try with_reducible rfl)
      (try simp only [Act.put, lq1, lq2, lq3, lq4, lq5, lq6])
      refine wt (i := 46) (v := ?vk19q46x141) rfl ?hk19q46x141 ?rk19q46x141
      case hk19q46x141 => (intro w hSw; (try dsimp only at hSw); obtain ⟨⟨s1, s2, s3⟩, ⟨s4, s5, s6⟩, ⟨⟨t0, t1⟩, t2, t3⟩, ⟨m0, m1⟩, m2, m3⟩ := hSw; go_simp; try with_reducible rfl)
      (try simp only [Act.put, lq1, lq2, lq3, lq4, lq5, lq6])
      refine wt (i := 47) (v := ?vk19q47x144) rfl ?hk19q47x144 ?rk19q47x144
      case hk19q47x144 => (intro w hSw; (try dsimp only at hSw); obtain ⟨⟨s1, s2, s3⟩, ⟨s4, s5, s6⟩, ⟨⟨t0, t1⟩, t2, t3⟩, ⟨m0, m1⟩, m2, m3⟩ := hSw; go_simp; try with_reducible rfl)
      (try simp only [Act.put, lq1, lq2, lq3, lq4, lq5, lq6])
      refine wt (i := 48) (v := ?vk19q48x147) rfl ?hk19q48x147 ?rk19q48x147
      case hk19q48x147 => (intro w hSw; (try dsimp only at hSw); obtain ⟨⟨s1, s2, s3⟩, ⟨s4, s5, s6⟩, ⟨⟨t0, t1⟩, t2, t3⟩, ⟨m0, m1⟩, m2, m3⟩ := hSw; go_simp; try with_reducible rfl)
      (try simp only [Act.put, lq1, lq2, lq3, lq4, lq5, lq6])
      refine wt (i := 49) (v := ?vk19q49x150) rfl ?hk19q49x150 ?rk19q49x150
      case hk19q49x150 => (intro w hSw; (try dsimp only at hSw); obtain ⟨⟨s1, s2, s3⟩, ⟨s4, s5, s6⟩, ⟨⟨t0, t1⟩, t2, t3⟩, ⟨m0, m1⟩, m2, m3⟩ := hSw; go_simp; try with_reducible rfl)
      (try simp only [Act.put, lq1, lq2, lq3, lq4, lq5, lq6])
      refine wt (i := 50) (v := ?vk19q50x153) rfl ?hk19q50x153 ?rk19q50x153
      case hk19q50x153 => (intro w hSw; (try dsimp only at hSw); obtain ⟨⟨s1, s2, s3⟩, ⟨s4, s5, s6⟩, ⟨⟨t0, t1⟩, t2, t3⟩, ⟨m0, m1⟩, m2, m3⟩ := hSw; go_simp; try with_reducible rfl)
      (try simp only [Act.put, lq1, lq2, lq3, lq4, lq5, lq6])
      refine wt (i := 51) (v := ?vk19q51x156) rfl ?hk19q51x156 ?rk19q51x156
      case hk19q51x156 => (intro w hSw; (try dsimp only at hSw); obtain ⟨⟨s1, s2, s3⟩, ⟨s4, s5, s6⟩, ⟨⟨t0, t1⟩, t2, t3⟩, ⟨m0, m1⟩, m2, m3⟩ := hSw; go_simp; try with_reducible rfl)
      (try simp only [Act.put, lq1, lq2, lq3, lq4, lq5, lq6])
      refine wt (i := 52) (v := ?vk19q52x159) rfl ?hk19q52x159 ?rk19q52x159
      case hk19q52x159 => (intro w hSw; (try dsimp only at hSw); obtain ⟨⟨s1, s2, s3⟩, ⟨s4, s5, s6⟩, ⟨⟨t0, t1⟩, t2, t3⟩, ⟨m0, m1⟩, m2, m3⟩ := hSw; go_simp; try with_reducible rfl)
      (try simp only [Act.put, lq1, lq2, lq3, lq4, lq5, lq6])
      refine wt (i := 53) (v := ?vk19q53x162) rfl ?hk19q53x162 ?rk19q53x162
      case hk19q53x162 => (intro w hSw; (try dsimp only at hSw); obtain ⟨⟨s1, s2, s3⟩, ⟨s4, s5, s6⟩, ⟨⟨t0, t1⟩, t2, t3⟩, ⟨m0, m1⟩, m2, m3⟩ := hSw; go_simp; try with_reducible rfl)
      (try simp only [Act.put, lq1, lq2, lq3, lq4, lq5, lq6])
      refine wt (i := 54) (v := ?vk19q54x165) rfl ?hk19q54x165 ?rk19q54x165
      case hk19q54x165 => (intro w hSw; (try dsimp only at hSw); obtain ⟨⟨s1, s2, s3⟩, ⟨s4, s5, s6⟩, ⟨⟨t0, t1⟩, t2, t3⟩, ⟨m0, m1⟩, m2, m3⟩ := hSw; go_simp; try with_reducible rfl)
      (try simp only [Act.put, lq1, lq2, lq3, lq4, lq5, lq6])
      refine wt (i := 55) (v := ?vk19q55x168) rfl ?hk19q55x168 ?rk19q55x168
      case hk19q55x168 => (intro w hSw; (try dsimp only at hSw); obtain ⟨⟨s1, s2, s3⟩, ⟨s4, s5, s6⟩, ⟨⟨t0, t1⟩, t2, t3⟩, ⟨m0, m1⟩, m2, m3⟩ := hSw; go_simp; try with_reducible rfl)
      (try simp only [Act.put, lq1, lq2, lq3, lq4, lq5, lq6])
      refine wt (i := 56) (v := ?vk19q56x171) rfl ?hk19q56x171 ?rk19q56x171
      case hk19q56x171 => (intro w hSw; (try dsimp only at hSw); obtain ⟨⟨s1, s2, s3⟩, ⟨s4, s5, s6⟩, ⟨⟨t0, t1⟩, t2, t3⟩, ⟨m0, m1⟩, m2, m3⟩ := hSw; go_simp; try with_reducible rfl)
      (try simp only [Act.put, lq1, lq2, lq3, lq4, lq5, lq6])
      refine wt (i := 57) (v := ?vk19q57x174) rfl ?hk19q57x174 ?rk19q57x174
      case hk19q57x174 => (intro w hSw; (try dsimp only at hSw); obtain ⟨⟨s1, s2, s3⟩, ⟨s4, s5, s6⟩, ⟨⟨t0, t1⟩, t2, t3⟩, ⟨m0, m1⟩, m2, m3⟩ := hSw; go_simp; try with_reducible rfl)
      (try simp only [Act.put, lq1, lq2, lq3, lq4, lq5, lq6])
      refine wt (i := 58) (v := ?vk19q58x177) rfl ?hk19q58x177 ?rk19q58x177
      case hk19q58x177 => (intro w hSw; (try dsimp only at hSw); obtain ⟨⟨s1, s2, s3⟩, ⟨s4, s5, s6⟩, ⟨⟨t0, t1⟩, t2, t3⟩, ⟨m0, m1⟩, m2, m3⟩ := hSw; go_simp; try with_reducible rfl)
      (try simp only [Act.put, lq1, lq2, lq3, lq4, lq5, lq6])
      refine wpAnyH_done (by kernel_rfl) ?_ _
      go_wp2_with fail
      go_roundw
      case rel => exact ⟨i + 1, H1.out, by go_num, hidb ⟨E.out.1.below (Gr.refl wr).drew.out, E.out.2.1.below (Gr.refl wr).drew.out, E.out.2.2.below (Gr.refl wr).drew.out⟩⟩
      case measure => have := H1.out; simp [intOf]; omega
end Go.Proofs.YtnadgoomkaldkaaDoor
namespace Go.Proofs.YtnadgoomkaldkaaDoor
open Go.RowKit

theorem shapeKeeps_law (g : Nat → Addr) (a : Option Addr) (n : Int) {B : Nat} (W : World) (hl : Lc W g) (hk : B ≤ 1048576) (hm : MArg W a B) : Calls Tryd.prog 5 #[.pointer a, .int .i64 n] W fun e w' => e = .returned (.bool true) ∧ Gr W w' := by
  rcases hm with rfl | ⟨pb, po, sd, b, o, cap, Ls, rfl, hp, hL, h1, h2⟩
  · exact skeeps_no g _ n W hl (fun W' _ => fewArcs_nil W')
  · by_cases hf : fewK Ls = true
    · have h3 : Ls.flatten.length ≤ 5000 := by
        have := of_decide_eq_true hf
        omega
      by_cases hc : mcd Ls = 0
      · by_cases hn : n < 0
        · exact skeeps_neg g (by omega) h3 hf hc hn W hl hp hL
        · exact skeeps_ok g hf hc (by omega) W hl hp hL
      · exact skeeps_bad g (by omega) h3 hf hc W hl hp hL
    · refine skeeps_no g _ n W hl (fun W' hG => ?_)
      have := fewArcs_any (Ls := Ls) (by omega) (by omega) W' ⟨(hG.out.cell (p := ⟨pb, po, none⟩) hp.2).trans hp.1, Nat.lt_of_lt_of_le hp.2 hG.out.size⟩ (hL.ll.below hG.out)
      rw [show fewK Ls = false by simpa using hf] at this
      exact this
end Go.Proofs.YtnadgoomkaldkaaDoor
